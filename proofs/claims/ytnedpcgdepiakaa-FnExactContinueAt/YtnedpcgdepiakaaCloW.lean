/-
  Walks: a row cloned (package slices), a text looked for in a row, by the program.
-/
import Derived.Test.YtnedpcgdepiakaaCopP
import Derived.Lib.SliceRun
import Derived.Test.YtnedpcgdepiakaaRowP
import Derived.Test.YtnedpcgdepiakaaTreeO
import Derived.Deep.OwnRows
import Derived.Laws.CopyOwn
namespace Go.Proofs.Ytnedpcgdepiakaa
open Go.RowKit

/-- Several values appended to a row that is owned. -/
theorem wpList_appN {P : Program} {w : World} {ops : Array Oper} {rest : List Oper} {o : Oper} {a : Act} {Q : Exit → Act → World → Prop} (hgd : o.guard = none) (s x : Operand) (t : TypeId)
    (ho : o.op = .call { callee := .builtin .append, args := #[s, x], argTypes := #[t, t] })
    (base : Nat) (e : TypeId) (z : Value) (bytes : Nat) (ht : P.underlying t = some (.slice e)) (hi : (P.info? e).map (fun i => (i.zero, i.size, i.bytes)) = some (some z, 1, bytes)) (hzs : z.cells.size = 1)
    (v : Value) (n : Nat) (xs : List Value) (hs : a.eval s = v) (hown : w.ownsRow base e 1 v n xs)
    (ad : Addr) (m c : Nat) (news : List Value) (hx : a.eval x = .slice (some ad) m c) (hl : news.length = m) (hnews : ∀ j u, news[j]? = some u → w.cell? (ad.add j) = some u) (h1 : ∀ u ∈ news, u.oneCell' = true)
    (h63 : n + m ≤ maxLen) (hbytes : (n + m) * bytes ≤ 140737488355328) (hbase : base ≤ w.heap.size)
    (h : ∀ v' w', w'.ownsRow base e 1 v' (n + m) (xs ++ news) → Below base w w' → wpList P ops Q rest (a.put o.dst v') w') : wpList P ops Q (o :: rest) a w := by
  obtain ⟨i, hi, hz0, hz1, hz2⟩ := info_parts hi
  refine wpList_append_own _ hgd s x t ho base e i z 1 bytes ht hi hz0 hz1 hz2 hzs (by decide) v n xs hs hown ad m c news hx (by omega) hnews h1 h63 hbytes hbase ?_
  intro v' w' hown' hgrow _
  exact h v' w' hown' ((Below.refl base w).grown hgrow hbase (fun j hj => (hown.lt j hj).1))
theorem owns_none {w : World} {B : Nat} {e : TypeId} : w.ownsRow B e 1 (.slice none 0 0) 0 [] := ⟨rfl, .inl ⟨rfl, rfl⟩⟩


theorem str_cmp' (x s : ByteArray) : (s.toList == x.toList) = eqS s x := by
  by_cases h : x = s
  · rw [eqS, decide_eq_true h]; exact str_beq.2 h.symm
  · rw [eqS, decide_eq_false h, Bool.eq_false_iff]; exact fun q => h (str_beq.1 q).symm
def IxR (w : World) (xs : List ByteArray) (s : ByteArray) (iv : Value) (wr : World) : Prop :=
  ∃ i : Nat, i ≤ xs.length ∧ iv = .int .i64 i ∧ wr = w ∧ Hid (NoneTo (eqS s) xs i)

theorem first_mem (xs : List ByteArray) (s : ByteArray) : decide (0 ≤ firstAt (eqS s) xs) = memB xs s := by
  by_cases h : s ∈ xs
  · rw [memB_iff.2 h]
    apply decide_eq_true
    rw [firstAt]
    split
    · omega
    · rename_i e
      have := List.findIdx?_eq_none_iff.1 e s h
      simp [eqS] at this
  · rw [memB_no.2 h]
    apply decide_eq_false
    rw [firstAt]
    split
    · rename_i i e
      obtain ⟨hi, hx, _⟩ := List.findIdx?_eq_some_iff_getElem.1 e
      have : xs[i] = s := of_decide_eq_true hx
      exact absurd (this ▸ List.getElem_mem hi) h
    · omega

end Go.Proofs.Ytnedpcgdepiakaa

namespace Go.Proofs.Ytnedpcgdepiakaa
open Go.RowKit

theorem made_ints (n : Nat) : (madeCells #[.int .i64 0] n).toList = (List.replicate n (0 : Int)).map I64 := by
  have := made_flat [.int .i64 0] (by simp) n
  simp only [List.length_singleton, Nat.mul_one] at this
  rw [this]
  induction n with
  | zero => rfl
  | succ n ih => simp [List.replicate_succ]
theorem infoI3 : (Try.prog.info? 3).map (fun i => (i.zero, i.size, i.bytes)) = some (some (.int .i64 0), 1, 8) := by kernel_rfl
theorem makeI_run (n : Nat) (hn : n ≤ 1048576) (w : World) : (Instr.makeSlice 22 (.int .i64 (n : Int)) (.int .i64 (n : Int))).run Try.prog w = .ok (.slice (some ⟨w.heap.size, 0, none⟩) n n) (w.alloc (.cells (madeCells #[.int .i64 0] n) 3)) :=
  run_make_row' 22 3 (.int .i64 0) 8 Try.underlying22 infoI3 rfl .i64 .i64 n (by omega) (by omega) w
/-- A new row of zeros is owned. -/
theorem made_own (w : World) (B n : Nat) (hB : B ≤ w.heap.size) (hn : n ≤ 1048576) : (w.alloc (.cells (madeCells #[.int .i64 0] n) 3)).ownsRow B 3 1 (.slice (some ⟨w.heap.size, 0, none⟩) n n) n ((List.replicate n (0 : Int)).map I64) := by
  refine ⟨by simp, .inr ⟨w.heap.size, n, madeCells #[.int .i64 0] n, rfl, hB, heap_alloc_new w _, Nat.le_refl _, by unfold maxLen; omega, by rw [size_madeCells, Nat.mul_one], ?_⟩⟩
  rw [made_ints, Nat.mul_one, List.take_of_length_le (by simp)]
end Go.Proofs.Ytnedpcgdepiakaa

namespace Go.Proofs.Ytnedpcgdepiakaa
open Go.RowKit

/-- A row with no room behind it. -/
def FullV (v : Value) (n : Nat) : Prop := ∃ b, v = .slice (some ⟨b, 0, none⟩) n n
theorem splice_whole (n : Nat) (cs : List Value) (hn : cs.length = n) (Z : List Value) (hz : Z.length = n) : splice Z 0 cs = cs := by
  unfold splice
  rw [List.drop_of_length_le (by omega), List.append_nil]
  rfl

set_option maxRecDepth 100000 in
set_option maxHeartbeats 1000000 in
theorem moved_any (v : Value) (ks : List Int) (w : World) (hK : IntsAt w v ks) (hl : ks.length ≤ 1048576) :
    Calls Try.prog 48 #[v] w fun e w' => ∃ v', e = .returned v' ∧ w'.ownsRow w.heap.size 3 1 v' ks.length (ks.map I64) ∧ Below w.heap.size w w' ∧ FullV v' ks.length := by
  obtain ⟨ao, c, rfl, hc⟩ := hK
  obtain ⟨Z, eZ⟩ : ∃ Z, (madeCells #[.int .i64 0] ks.length).toList = Z := ⟨_, rfl⟩
  have hZ : Z.length = ks.length := by rw [← eZ, made_ints]; simp
  have eM : madeCells #[.int .i64 0] ks.length = Z.toArray := by rw [← eZ]
  have hmk := makeI_run ks.length hl w
  rw [eM] at hmk
  have HG : Hid ((w.alloc (.cells Z.toArray 3)).heap[w.heap.size]? = some (.cells Z.toArray 3 (0, 0))) := hide (heap_alloc_new w _)
  have HB : Hid (Below w.heap.size w (w.alloc (.cells Z.toArray 3))) := hide ((Below.refl _ _).alloc (Nat.le_refl _) _)
  obtain ⟨X, eX⟩ : ∃ X, ks.map I64 = X := ⟨_, rfl⟩
  have hX : X.length = ks.length := by rw [← eX]; simp
  have H1 : Hid (∀ u ∈ X, u.oneCell' = true) := by
    refine hide ?_
    rw [← eX]
    intro u hu
    obtain ⟨x, _, rfl⟩ := List.mem_map.1 hu
    rfl
  have HP : Hid (0 < X.length → ∃ ad, ao = some ad ∧ ∀ j u, X[j]? = some u → (w.alloc (.cells Z.toArray 3)).cell? (ad.add j) = some u) := by
    refine hide fun h0 => ?_
    obtain ⟨a, ha, _⟩ := hc 0 (by omega)
    refine ⟨a, ha, fun j u hj => ?_⟩
    rw [← eX, List.getElem?_map] at hj
    obtain ⟨x, hx, rfl⟩ := Option.map_eq_some_iff.1 hj
    obtain ⟨hj2, rfl⟩ := List.getElem?_eq_some_iff.1 hx
    obtain ⟨a', ha', hb', hcell⟩ := hc j hj2
    obtain rfl : a = a' := by rw [ha] at ha'; injection ha'
    rw [World.cell?_alloc_lt _ _ _ (by rw [block_add]; exact hb')]
    exact hcell
  clear hc eM eZ
  have EX := hide eX
  clear eX
  obtain ⟨n, en⟩ : ∃ n, ks.length = n := ⟨_, rfl⟩
  rw [en] at hZ hmk hX hl ⊢
  clear en
  have HX := hide hX
  have HZ := hide hZ
  clear hX hZ
  go_enter Try.func48, Try.ntmps48
  go_wp2_with (refine wpList_copy_splice rfl (.tmp 7) (.tmp 8) 22 22 rfl 3 Try.underlying22 (by kernel_rfl) _ _ _ _ _ _ rfl rfl w.heap.size 0 Z 3 HG.out X (by rw [HX.out]; simp) (fun h => ⟨rfl, HP.out h⟩) (by rw [HX.out, HZ.out]; omega) H1.out w.heap.size w HB.out (Nat.le_refl _) ?_; intro w2 HG2 hB2)
  go_ret
  refine ⟨_, rfl, ⟨by simp [EX.out, HX.out], .inr ⟨w.heap.size, n, _, rfl, Nat.le_refl _, HG2.out, Nat.le_refl _, by unfold maxLen; omega, ?_, ?_⟩⟩, hB2, ⟨_, rfl⟩⟩
  · rw [splice_whole n X HX.out Z HZ.out]
    simp [HX.out]
  · rw [splice_whole n X HX.out Z HZ.out, EX.out, Nat.mul_one, List.take_of_length_le (by simp [HX.out])]
end Go.Proofs.Ytnedpcgdepiakaa

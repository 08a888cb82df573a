/-
  Walk: the same numbers in memory of their own, by the program.
-/
import Derived.Test.YtnedpcgdepiakaaCopE
import Derived.Laws.CopyOwn
namespace Go.Proofs.Ytnedpcgdepiakaa
open Go.RowKit

/-- A row with no room behind it. -/
def FullV (v : Value) (n : Nat) : Prop := ∃ b, v = .slice (some ⟨b, 0, none⟩) n n
theorem splice_whole (n : Nat) (cs : List Value) (hn : cs.length = n) (Z : List Value) (hz : Z.length = n) : splice Z 0 cs = cs := by
  unfold splice
  rw [List.drop_of_length_le (by omega), List.append_nil]
  rfl

set_option maxRecDepth 100000 in
set_option maxHeartbeats 1000000 in
theorem moved_any (v : Value) (ks : List Int) (w : World) (hK : IntsAt w v ks) (hl : ks.length ≤ 1048576) :
    Calls Try.prog 48 #[v] w fun e w' => ∃ v', e = .returned v' ∧ w'.ownsRow w.heap.size 3 1 v' ks.length (ks.map I64) ∧ Below w.heap.size w w' ∧ FullV v' ks.length := by
  obtain ⟨ao, c, rfl, hc⟩ := hK
  obtain ⟨Z, eZ⟩ : ∃ Z, (madeCells #[.int .i64 0] ks.length).toList = Z := ⟨_, rfl⟩
  have hZ : Z.length = ks.length := by rw [← eZ, made_ints]; simp
  have eM : madeCells #[.int .i64 0] ks.length = Z.toArray := by rw [← eZ]
  have hmk := makeI_run ks.length hl w
  rw [eM] at hmk
  have HG : Hid ((w.alloc (.cells Z.toArray 3)).heap[w.heap.size]? = some (.cells Z.toArray 3 (0, 0))) := hide (heap_alloc_new w _)
  have HB : Hid (Below w.heap.size w (w.alloc (.cells Z.toArray 3))) := hide ((Below.refl _ _).alloc (Nat.le_refl _) _)
  obtain ⟨X, eX⟩ : ∃ X, ks.map I64 = X := ⟨_, rfl⟩
  have hX : X.length = ks.length := by rw [← eX]; simp
  have H1 : Hid (∀ u ∈ X, u.oneCell' = true) := by
    refine hide ?_
    rw [← eX]
    intro u hu
    obtain ⟨x, _, rfl⟩ := List.mem_map.1 hu
    rfl
  have HP : Hid (0 < X.length → ∃ ad, ao = some ad ∧ ∀ j u, X[j]? = some u → (w.alloc (.cells Z.toArray 3)).cell? (ad.add j) = some u) := by
    refine hide fun h0 => ?_
    obtain ⟨a, ha, _⟩ := hc 0 (by omega)
    refine ⟨a, ha, fun j u hj => ?_⟩
    rw [← eX, List.getElem?_map] at hj
    obtain ⟨x, hx, rfl⟩ := Option.map_eq_some_iff.1 hj
    obtain ⟨hj2, rfl⟩ := List.getElem?_eq_some_iff.1 hx
    obtain ⟨a', ha', hb', hcell⟩ := hc j hj2
    obtain rfl : a = a' := by rw [ha] at ha'; injection ha'
    rw [World.cell?_alloc_lt _ _ _ (by rw [block_add]; exact hb')]
    exact hcell
  clear hc eM eZ
  have EX := hide eX
  clear eX
  obtain ⟨n, en⟩ : ∃ n, ks.length = n := ⟨_, rfl⟩
  rw [en] at hZ hmk hX hl ⊢
  clear en
  have HX := hide hX
  have HZ := hide hZ
  clear hX hZ
  go_enter Try.func48, Try.ntmps48
  go_wp2_with (refine wpList_copy_splice rfl (.tmp 7) (.tmp 8) 22 22 rfl 3 Try.underlying22 (by kernel_rfl) _ _ _ _ _ _ rfl rfl w.heap.size 0 Z 3 HG.out X (by rw [HX.out]; simp) (fun h => ⟨rfl, HP.out h⟩) (by rw [HX.out, HZ.out]; omega) H1.out w.heap.size w HB.out (Nat.le_refl _) ?_; intro w2 HG2 hB2)
  go_ret
  refine ⟨_, rfl, ⟨by simp [EX.out, HX.out], .inr ⟨w.heap.size, n, _, rfl, Nat.le_refl _, HG2.out, Nat.le_refl _, by unfold maxLen; omega, ?_, ?_⟩⟩, hB2, ⟨_, rfl⟩⟩
  · rw [splice_whole n X HX.out Z HZ.out]
    simp [HX.out]
  · rw [splice_whole n X HX.out Z HZ.out, EX.out, Nat.mul_one, List.take_of_length_le (by simp [HX.out])]
end Go.Proofs.Ytnedpcgdepiakaa

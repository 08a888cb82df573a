/-
  Walks: a program that came in, copied, by the laws' own helpers: numbers, texts, nodes.
-/
import Derived.Test.YtkoelibclihekaaRowQ
import Derived.Test.YtkoelibclihekaaTreeX
import Derived.Laws.OwnMore
import Derived.Handy
namespace Go.Proofs.Ytkoelibclihekaa
open Go.RowKit

def IntC (_base : Nat) (_w : World) (cs : List Value) (x : Int) : Prop := cs = [.int .i64 x]
def StrC (_base : Nat) (_w : World) (cs : List Value) (x : ByteArray) : Prop := cs = [.string x]
instance : Told IntC := ⟨fun h _ => h, fun h _ => h⟩
instance : Told StrC := ⟨fun h _ => h, fun h _ => h⟩
theorem ObjsIn.ints {base : Nat} {w : World} {v : Value} {xs : List Int} (h : ObjsIn IntC 1 base w v xs) : IntsIn base w v xs := by
  obtain ⟨css, ⟨ao, c, rfl, h0, hc⟩, hl, hr⟩ := h
  refine ⟨ao, c, by rw [hl, List.length_map], ⟨by rw [List.length_map]; omega, fun h1 => h0.2 (by rw [List.length_map] at h1; omega)⟩, fun j u hj => ?_⟩
  rw [List.getElem?_map] at hj
  obtain ⟨x, hx, rfl⟩ := Option.map_eq_some_iff.1 hj
  have hj2 := (List.getElem?_eq_some_iff.1 hx).1
  have hj3 : j < css.length := by omega
  obtain ⟨_, a, rfl, h1, h2, h3⟩ := hc j css[j] (List.getElem?_eq_getElem hj3)
  have e := hr j css[j] x (List.getElem?_eq_getElem hj3) hx
  rw [e] at h3
  exact ⟨a, rfl, h1, h2, by have := h3 0 _ rfl; simpa using this⟩
theorem ObjsIn.strs {base : Nat} {w : World} {v : Value} {xs : List ByteArray} (h : ObjsIn StrC 1 base w v xs) : StrsIn base w v xs := by
  obtain ⟨css, ⟨ao, c, rfl, h0, hc⟩, hl, hr⟩ := h
  refine ⟨ao, c, by rw [hl, List.length_map], ⟨by rw [List.length_map]; omega, fun h1 => h0.2 (by rw [List.length_map] at h1; omega)⟩, fun j u hj => ?_⟩
  rw [List.getElem?_map] at hj
  obtain ⟨x, hx, rfl⟩ := Option.map_eq_some_iff.1 hj
  have hj2 := (List.getElem?_eq_some_iff.1 hx).1
  have hj3 : j < css.length := by omega
  obtain ⟨_, a, rfl, h1, h2, h3⟩ := hc j css[j] (List.getElem?_eq_getElem hj3)
  have e := hr j css[j] x (List.getElem?_eq_getElem hj3) hx
  rw [e] at h3
  exact ⟨a, rfl, h1, h2, by have := h3 0 _ rfl; simpa using this⟩

def FillR {α : Type} (R : Nat → World → List Value → α → Prop) (s : Nat) (e : TypeId) (w : World) (xs : List α) (iv : Value) (wr : World) : Prop :=
  ∃ k : Nat, k ≤ xs.length ∧ iv = .int .i64 k ∧ Hid (Filled R s e w xs k wr)

set_option maxRecDepth 100000 in
set_option maxHeartbeats 1000000 in
theorem toIntS_any (v : Value) (xs : List Int) (w : World) (h : IntsAt w v xs) (hlen : xs.length ≤ 1048576) :
    Calls Try.prog 26 #[v] w fun e w' => ∃ v', e = .returned v' ∧ IntsIn w.heap.size w' v' xs ∧ Below w.heap.size w w' := by
  obtain ⟨i0, hi, hz0, hz1, hz2⟩ := info_parts (Try.infoInt)
  obtain ⟨wm, hmk, hown, hgr⟩ := run_make_full (P := Try.prog) w w.heap.size 30 3 i0 (.int .i64 0) 1 Try.underlying30 hi hz0 hz1 .i64 .i64 xs.length (by rw [hz2]; omega) (by unfold maxLen; omega) (Nat.le_refl _)
  have HS : Hid (Filled IntC 1 3 w xs 0 wm) := Filled.start IntC xs [.int .i64 0] (by decide) hown hgr
  have HC := hide h
  obtain ⟨ao, c, rfl, _⟩ := h
  clear hown hgr hi hz0 hz1 hz2
  obtain ⟨n, en⟩ : ∃ n, xs.length = n := ⟨_, rfl⟩
  have EN := hide en
  rw [en] at hmk hlen HC ⊢
  clear en
  go_enter Try.func26, Try.ntmps26
  go_wp2
  go_loopw [4] (FillR IntC 1 3 w xs) (fun iv _ => n - (intOf iv).toNat)
  case atStart => exact ⟨0, Nat.zero_le _, rfl, HS.out⟩
  case round =>
    obtain ⟨k, hk, rfl, HF⟩ := hrel
    rw [EN.out] at hk
    by_cases hlt : k < n
    · have hlt' : (k : Int) < (n : Int) := by omega
      have hi0 : (0 : Int) ≤ (k : Int) := by omega
      have hkx : k < xs.length := by rw [EN.out]; exact hlt
      obtain ⟨ao', c', e1, hc1⟩ := HC.out.stays HF.out.below
      injection e1 with e2 e3 e4
      subst e2
      obtain ⟨a, rfl, _, hx⟩ := hc1 k hkx
      obtain ⟨⟨u0, y0⟩, z0⟩ := HF.out.there hkx 0 (by omega)
      have HN := hide (HF.out.next hkx (y := [.int .i64 xs[k]]) rfl rfl)
      obtain ⟨x, ex⟩ : ∃ x, xs[k] = x := ⟨_, rfl⟩
      rw [ex] at hx HN
      rw [Nat.mul_one, Nat.add_zero] at y0 z0
      clear ex hc1 e3 e4
      go_wp2
      go_roundw
      case rel => exact ⟨k + 1, by rw [EN.out]; omega, by go_num, by have := HN.out; rwa [Nat.mul_one] at this⟩
      case measure => simp [intOf]; omega
    · have hlt' : ¬ (k : Int) < (n : Int) := by omega
      go_wp2
      go_ret
      exact ⟨_, rfl, by
        have := (HF.out.done (by rw [EN.out]; omega)).ints
        rwa [EN.out] at this, HF.out.below⟩
theorem Try.infoStr : (Try.prog.info? 9).map (fun i => (i.zero, i.size, i.bytes)) = some (some (.string ⟨#[]⟩), 1, 16) := by kernel_rfl
set_option maxRecDepth 100000 in
set_option maxHeartbeats 1000000 in
theorem toStringS_any (v : Value) (xs : List ByteArray) (w : World) (h : StrsAt w v xs) (hlen : xs.length ≤ 1048576) :
    Calls Try.prog 74 #[v] w fun e w' => ∃ v', e = .returned v' ∧ StrsIn w.heap.size w' v' xs ∧ Below w.heap.size w w' := by
  obtain ⟨i0, hi, hz0, hz1, hz2⟩ := info_parts (Try.infoStr)
  obtain ⟨wm, hmk, hown, hgr⟩ := run_make_full (P := Try.prog) w w.heap.size 59 9 i0 (.string ⟨#[]⟩) 1 Try.underlying59 hi hz0 hz1 .i64 .i64 xs.length (by rw [hz2]; omega) (by unfold maxLen; omega) (Nat.le_refl _)
  have HS : Hid (Filled StrC 1 9 w xs 0 wm) := Filled.start StrC xs [.string ⟨#[]⟩] (by decide) hown hgr
  have HC := hide h
  obtain ⟨ao, c, rfl, _⟩ := h
  clear hown hgr hi hz0 hz1 hz2
  obtain ⟨n, en⟩ : ∃ n, xs.length = n := ⟨_, rfl⟩
  have EN := hide en
  rw [en] at hmk hlen HC ⊢
  clear en
  go_enter Try.func74, Try.ntmps74
  go_wp2
  go_loopw [4] (FillR StrC 1 9 w xs) (fun iv _ => n - (intOf iv).toNat)
  case atStart => exact ⟨0, Nat.zero_le _, rfl, HS.out⟩
  case round =>
    obtain ⟨k, hk, rfl, HF⟩ := hrel
    rw [EN.out] at hk
    by_cases hlt : k < n
    · have hlt' : (k : Int) < (n : Int) := by omega
      have hi0 : (0 : Int) ≤ (k : Int) := by omega
      have hkx : k < xs.length := by rw [EN.out]; exact hlt
      obtain ⟨ao', c', e1, hc1⟩ := HC.out.stays HF.out.below
      injection e1 with e2 e3 e4
      subst e2
      obtain ⟨a, rfl, _, hx⟩ := hc1 k hkx
      obtain ⟨⟨u0, y0⟩, z0⟩ := HF.out.there hkx 0 (by omega)
      have HN := hide (HF.out.next hkx (y := [.string xs[k]]) rfl rfl)
      obtain ⟨x, ex⟩ : ∃ x, xs[k] = x := ⟨_, rfl⟩
      rw [ex] at hx HN
      rw [Nat.mul_one, Nat.add_zero] at y0 z0
      clear ex hc1 e3 e4
      go_wp2
      go_roundw
      case rel => exact ⟨k + 1, by rw [EN.out]; omega, by go_num, by have := HN.out; rwa [Nat.mul_one] at this⟩
      case measure => simp [intOf]; omega
    · have hlt' : ¬ (k : Int) < (n : Int) := by omega
      go_wp2
      go_ret
      exact ⟨_, rfl, by
        have := (HF.out.done (by rw [EN.out]; omega)).strs
        rwa [EN.out] at this, HF.out.below⟩

set_option maxRecDepth 100000 in
set_option maxHeartbeats 1000000 in
theorem toNode_any (x : Nd) (kv : Value) (w : World) (hK : IntsAt w kv x.kids) (hl : x.kids.length ≤ 1048576) :
    Calls Try.prog 70 #[.agg #[.int .i64 x.kind, .int .i64 x.num, .string x.name, .string x.more, .string x.into, kv]] w fun e w' => ∃ o n c, e = .returned (.agg #[.int .i64 x.kind, .int .i64 x.num, .string x.name, .string x.more, .string x.into, .slice o n c]) ∧ NodeC w.heap.size w' [.int .i64 x.kind, .int .i64 x.num, .string x.name, .string x.more, .string x.into, .slice o n c] x ∧ Below w.heap.size w w' := by
  have C := fun w h => hide (toIntS_any kv x.kids w h hl)
  have HB0 : Hid (Below w.heap.size w (((w.alloc (.cells #[.int .i64 x.kind, .int .i64 x.num, .string x.name, .string x.more, .string x.into, kv] 122)).alloc (.cells #[.int .i64 0, .int .i64 0, .string ⟨#[]⟩, .string ⟨#[]⟩, .string ⟨#[]⟩, .slice none 0 0] 131)).alloc (.cells #[.int .i64 x.kind, .int .i64 x.num, .string x.name, .string x.more, .string x.into, .slice none 0 0] 131))) := by show Below _ _ _; go_grown
  have HK : Hid (IntsAt (((w.alloc (.cells #[.int .i64 x.kind, .int .i64 x.num, .string x.name, .string x.more, .string x.into, kv] 122)).alloc (.cells #[.int .i64 0, .int .i64 0, .string ⟨#[]⟩, .string ⟨#[]⟩, .string ⟨#[]⟩, .slice none 0 0] 131)).alloc (.cells #[.int .i64 x.kind, .int .i64 x.num, .string x.name, .string x.more, .string x.into, .slice none 0 0] 131)) kv x.kids) := hK.stays HB0.out
  have HQ1 : Hid (Box (((w.alloc (.cells #[.int .i64 x.kind, .int .i64 x.num, .string x.name, .string x.more, .string x.into, kv] 122)).alloc (.cells #[.int .i64 0, .int .i64 0, .string ⟨#[]⟩, .string ⟨#[]⟩, .string ⟨#[]⟩, .slice none 0 0] 131)).alloc (.cells #[.int .i64 x.kind, .int .i64 x.num, .string x.name, .string x.more, .string x.into, .slice none 0 0] 131)) (w.heap.size + 1) #[.int .i64 0, .int .i64 0, .string ⟨#[]⟩, .string ⟨#[]⟩, .string ⟨#[]⟩, .slice none 0 0] 131) := (Box.madeAt (by simp) _ _).stays ((Below.refl _ _).alloc (Nat.le_refl _) _)
  have HQ2 : Hid (Box (((w.alloc (.cells #[.int .i64 x.kind, .int .i64 x.num, .string x.name, .string x.more, .string x.into, kv] 122)).alloc (.cells #[.int .i64 0, .int .i64 0, .string ⟨#[]⟩, .string ⟨#[]⟩, .string ⟨#[]⟩, .slice none 0 0] 131)).alloc (.cells #[.int .i64 x.kind, .int .i64 x.num, .string x.name, .string x.more, .string x.into, .slice none 0 0] 131)) (w.heap.size + 1 + 1) #[.int .i64 x.kind, .int .i64 x.num, .string x.name, .string x.more, .string x.into, .slice none 0 0] 131) := Box.madeAt (by simp) _ _
  have HZ : Hid ((((w.alloc (.cells #[.int .i64 x.kind, .int .i64 x.num, .string x.name, .string x.more, .string x.into, kv] 122)).alloc (.cells #[.int .i64 0, .int .i64 0, .string ⟨#[]⟩, .string ⟨#[]⟩, .string ⟨#[]⟩, .slice none 0 0] 131)).alloc (.cells #[.int .i64 x.kind, .int .i64 x.num, .string x.name, .string x.more, .string x.into, .slice none 0 0] 131)).heap.size = w.heap.size + 3) := by show _ = _; simp
  obtain ⟨ao, c, rfl, _⟩ := hK
  clear hl
  go_enter Try.func70, Try.ntmps70
  go_wp2_with (go_at_call 26; refine (unhide (C _ HK.out)).mono ?_; rintro e w2 ⟨v2, rfl, hv2, hb2⟩; have HB := hide (HB0.out.trans (hb2.mono HB0.out.size)); have HW : Hid (IntsIn (w.heap.size + 3) w2 v2 x.kids) := hv2.mono (Nat.le_of_eq HZ.out.symm); obtain ⟨o2, c2, rfl, hr2, hc2⟩ := hv2; have q1 := HQ1.out.stays hb2; have q2 := HQ2.out.stays hb2; have Q1 := hide q1; have Q2 := hide q2; have f0 := Lib.cell_of_heap q1 0; have f1 := Lib.cell_of_heap q1 1; have f2 := Lib.cell_of_heap q1 2; have f3 := Lib.cell_of_heap q1 3; have f4 := Lib.cell_of_heap q1 4; have f5 := Lib.cell_of_heap q1 5; have z0 := Lib.frozen_of_heap q1 0; have z1 := Lib.frozen_of_heap q1 1; have z2 := Lib.frozen_of_heap q1 2; have z3 := Lib.frozen_of_heap q1 3; have z4 := Lib.frozen_of_heap q1 4; have z5 := Lib.frozen_of_heap q1 5; have g0 := Lib.cell_of_heap q2 0; have g1 := Lib.cell_of_heap q2 1; have g2 := Lib.cell_of_heap q2 2; have g3 := Lib.cell_of_heap q2 3; have g4 := Lib.cell_of_heap q2 4; have g5 := Lib.cell_of_heap q2 5; have y5 := Lib.frozen_of_heap q2 5; simp at f0 f1 f2 f3 f4 f5 g0 g1 g2 g3 g4 g5; clear hb2 hc2 hr2 q1 q2)
  refine box_ret (g := w.heap.size + 1) (t := 131) (cs := #[.int .i64 x.kind, .int .i64 x.num, .string x.name, .string x.more, .string x.into, .slice o2 x.kids.length c2]) rfl rfl ?_ _ Try.underlying131 rfl (by kernel_rfl) rfl ?_
  · simpa using ((((((Q1.out.other ⟨w.heap.size + 1 + 1, 5, none⟩ (.slice o2 x.kids.length c2) (by show w.heap.size + 1 ≠ w.heap.size + 1 + 1; omega)).set 0 _).set 1 _).set 2 _).set 3 _).set 4 _).set 5 _
  · refine ⟨_, _, _, rfl, ⟨_, rfl, ?_⟩, ?_⟩
    · refine CellsIn.mono (base := w.heap.size + 3) ?_ (by omega)
      iterate 7 refine CellsIn.kept ?_ (KeptFrom.setCell (by omega) _ _ _)
      have := HW.out
      rwa [List.length_map] at this
    · iterate 7 refine Below.setCell ?_ (by dsimp only; omega) _
      exact HB.out
end Go.Proofs.Ytkoelibclihekaa

namespace Go.Proofs.Ytkoelibclihekaa
open Go.RowKit

def blockQ (x : Int) : Bool := decide (x = 20)
def BlocksR (W1 : World) (l : List Int) (n m : Nat) (iv : Value) (wr : World) : Prop :=
  ∃ i : Nat, n ≤ i ∧ i ≤ m ∧ iv = .int .i64 i ∧ Hid (Below W1.heap.size W1 wr) ∧ Hid (∀ j x, n ≤ j → j < i → l[j]? = some x → blockQ x = true)

theorem NdsAt.node {w : World} {nv : Value} {ns : List Nd} (h : NdsAt w nv ns) (k : Nat) (hk : k < ns.length) :
    ∃ a c p kv, nv = .slice (some a) ns.length c ∧ a.add (k * 6) = p ∧ p.block < w.heap.size ∧ NdCell w p ns[k] kv := by
  obtain ⟨ao, c, rfl, hc⟩ := h
  obtain ⟨a, kv, rfl, ha, hx⟩ := hc k hk
  exact ⟨a, c, a.add (k * 6), kv, rfl, rfl, by rw [block_add]; exact ha, hx⟩

/-- Are a node's kids what its kind wants? -/
def kidsB (kd : Int) (l : List Int) : Bool :=
  if kd = 1 ∨ kd = 2 ∨ kd = 16 ∨ kd = 17 ∨ kd = 18 ∨ kd = 19 then decide (l.length = 0)
  else if kd = 3 then decide (l.length = 2) && (l.take 2).all valueQ
  else if kd = 4 ∨ kd = 5 ∨ kd = 11 ∨ kd = 14 ∨ kd = 15 then decide (l.length = 1) && (l.take 1).all valueQ
  else if kd = 12 then decide (l.length = 2 ∨ l.length = 3) && (l.take 1).all valueQ && (l.drop 1).all blockQ
  else if kd = 13 then decide (l.length = 2) && (l.take 1).all valueQ && (l.drop 1).all blockQ
  else l.all stmtQ && inZ 1 12 l.length
end Go.Proofs.Ytkoelibclihekaa

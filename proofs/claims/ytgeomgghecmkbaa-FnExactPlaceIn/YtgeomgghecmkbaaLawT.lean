/-
  Walks: a program that came in, copied, by the laws' own helpers: numbers, texts, nodes.
-/
import Derived.Test.YtgeomgghecmkbaaRowQ
import Derived.Test.YtgeomgghecmkbaaTreeW
import Derived.Laws.OwnMore
import Derived.Handy
namespace Go.Proofs.Ytgeomgghecmkbaa
open Go.RowKit

def IntC (_base : Nat) (_w : World) (cs : List Value) (x : Int) : Prop := cs = [.int .i64 x]
def StrC (_base : Nat) (_w : World) (cs : List Value) (x : ByteArray) : Prop := cs = [.string x]
instance : Told IntC := ⟨fun h _ => h, fun h _ => h⟩
instance : Told StrC := ⟨fun h _ => h, fun h _ => h⟩
theorem ObjsIn.ints {base : Nat} {w : World} {v : Value} {xs : List Int} (h : ObjsIn IntC 1 base w v xs) : IntsIn base w v xs := by
  obtain ⟨css, ⟨ao, c, rfl, h0, hc⟩, hl, hr⟩ := h
  refine ⟨ao, c, by rw [hl, List.length_map], ⟨by rw [List.length_map]; omega, fun h1 => h0.2 (by rw [List.length_map] at h1; omega)⟩, fun j u hj => ?_⟩
  rw [List.getElem?_map] at hj
  obtain ⟨x, hx, rfl⟩ := Option.map_eq_some_iff.1 hj
  have hj2 := (List.getElem?_eq_some_iff.1 hx).1
  have hj3 : j < css.length := by omega
  obtain ⟨_, a, rfl, h1, h2, h3⟩ := hc j css[j] (List.getElem?_eq_getElem hj3)
  have e := hr j css[j] x (List.getElem?_eq_getElem hj3) hx
  rw [e] at h3
  exact ⟨a, rfl, h1, h2, by have := h3 0 _ rfl; simpa using this⟩
theorem ObjsIn.strs {base : Nat} {w : World} {v : Value} {xs : List ByteArray} (h : ObjsIn StrC 1 base w v xs) : StrsIn base w v xs := by
  obtain ⟨css, ⟨ao, c, rfl, h0, hc⟩, hl, hr⟩ := h
  refine ⟨ao, c, by rw [hl, List.length_map], ⟨by rw [List.length_map]; omega, fun h1 => h0.2 (by rw [List.length_map] at h1; omega)⟩, fun j u hj => ?_⟩
  rw [List.getElem?_map] at hj
  obtain ⟨x, hx, rfl⟩ := Option.map_eq_some_iff.1 hj
  have hj2 := (List.getElem?_eq_some_iff.1 hx).1
  have hj3 : j < css.length := by omega
  obtain ⟨_, a, rfl, h1, h2, h3⟩ := hc j css[j] (List.getElem?_eq_getElem hj3)
  have e := hr j css[j] x (List.getElem?_eq_getElem hj3) hx
  rw [e] at h3
  exact ⟨a, rfl, h1, h2, by have := h3 0 _ rfl; simpa using this⟩

def FillR {α : Type} (R : Nat → World → List Value → α → Prop) (s : Nat) (e : TypeId) (w : World) (xs : List α) (iv : Value) (wr : World) : Prop :=
  ∃ k : Nat, k ≤ xs.length ∧ iv = .int .i64 k ∧ Hid (Filled R s e w xs k wr)

set_option maxRecDepth 100000 in
set_option maxHeartbeats 1000000 in
theorem toIntS_any (v : Value) (xs : List Int) (w : World) (h : IntsAt w v xs) (hlen : xs.length ≤ 1048576) :
    Calls Try.prog 12 #[v] w fun e w' => ∃ v', e = .returned v' ∧ IntsIn w.heap.size w' v' xs ∧ Below w.heap.size w w' := by
  obtain ⟨i0, hi, hz0, hz1, hz2⟩ := info_parts (Try.infoInt)
  obtain ⟨wm, hmk, hown, hgr⟩ := run_make_full (P := Try.prog) w w.heap.size 23 3 i0 (.int .i64 0) 1 Try.underlying23 hi hz0 hz1 .i64 .i64 xs.length (by rw [hz2]; omega) (by unfold maxLen; omega) (Nat.le_refl _)
  have HS : Hid (Filled IntC 1 3 w xs 0 wm) := Filled.start IntC xs [.int .i64 0] (by decide) hown hgr
  have HC := hide h
  obtain ⟨ao, c, rfl, _⟩ := h
  clear hown hgr hi hz0 hz1 hz2
  obtain ⟨n, en⟩ : ∃ n, xs.length = n := ⟨_, rfl⟩
  have EN := hide en
  rw [en] at hmk hlen HC ⊢
  clear en
  go_enter Try.func12, Try.ntmps12
  go_wp2
  go_loopw [4] (FillR IntC 1 3 w xs) (fun iv _ => n - (intOf iv).toNat)
  case atStart => exact ⟨0, Nat.zero_le _, rfl, HS.out⟩
  case round =>
    obtain ⟨k, hk, rfl, HF⟩ := hrel
    rw [EN.out] at hk
    by_cases hlt : k < n
    · have hlt' : (k : Int) < (n : Int) := by omega
      have hi0 : (0 : Int) ≤ (k : Int) := by omega
      have hkx : k < xs.length := by rw [EN.out]; exact hlt
      obtain ⟨ao', c', e1, hc1⟩ := HC.out.stays HF.out.below
      injection e1 with e2 e3 e4
      subst e2
      obtain ⟨a, rfl, _, hx⟩ := hc1 k hkx
      obtain ⟨⟨u0, y0⟩, z0⟩ := HF.out.there hkx 0 (by omega)
      have HN := hide (HF.out.next hkx (y := [.int .i64 xs[k]]) rfl rfl)
      obtain ⟨x, ex⟩ : ∃ x, xs[k] = x := ⟨_, rfl⟩
      rw [ex] at hx HN
      rw [Nat.mul_one, Nat.add_zero] at y0 z0
      clear ex hc1 e3 e4
      go_wp2
      go_roundw
      case rel => exact ⟨k + 1, by rw [EN.out]; omega, by go_num, by have := HN.out; rwa [Nat.mul_one] at this⟩
      case measure => simp [intOf]; omega
    · have hlt' : ¬ (k : Int) < (n : Int) := by omega
      go_wp2
      go_ret
      exact ⟨_, rfl, by
        have := (HF.out.done (by rw [EN.out]; omega)).ints
        rwa [EN.out] at this, HF.out.below⟩
theorem Try.infoStr : (Try.prog.info? 9).map (fun i => (i.zero, i.size, i.bytes)) = some (some (.string ⟨#[]⟩), 1, 16) := by kernel_rfl
set_option maxRecDepth 100000 in
set_option maxHeartbeats 1000000 in
theorem toStringS_any (v : Value) (xs : List ByteArray) (w : World) (h : StrsAt w v xs) (hlen : xs.length ≤ 1048576) :
    Calls Try.prog 11 #[v] w fun e w' => ∃ v', e = .returned v' ∧ StrsIn w.heap.size w' v' xs ∧ Below w.heap.size w w' := by
  obtain ⟨i0, hi, hz0, hz1, hz2⟩ := info_parts (Try.infoStr)
  obtain ⟨wm, hmk, hown, hgr⟩ := run_make_full (P := Try.prog) w w.heap.size 22 9 i0 (.string ⟨#[]⟩) 1 Try.underlying22 hi hz0 hz1 .i64 .i64 xs.length (by rw [hz2]; omega) (by unfold maxLen; omega) (Nat.le_refl _)
  have HS : Hid (Filled StrC 1 9 w xs 0 wm) := Filled.start StrC xs [.string ⟨#[]⟩] (by decide) hown hgr
  have HC := hide h
  obtain ⟨ao, c, rfl, _⟩ := h
  clear hown hgr hi hz0 hz1 hz2
  obtain ⟨n, en⟩ : ∃ n, xs.length = n := ⟨_, rfl⟩
  have EN := hide en
  rw [en] at hmk hlen HC ⊢
  clear en
  go_enter Try.func11, Try.ntmps11
  go_wp2
  go_loopw [4] (FillR StrC 1 9 w xs) (fun iv _ => n - (intOf iv).toNat)
  case atStart => exact ⟨0, Nat.zero_le _, rfl, HS.out⟩
  case round =>
    obtain ⟨k, hk, rfl, HF⟩ := hrel
    rw [EN.out] at hk
    by_cases hlt : k < n
    · have hlt' : (k : Int) < (n : Int) := by omega
      have hi0 : (0 : Int) ≤ (k : Int) := by omega
      have hkx : k < xs.length := by rw [EN.out]; exact hlt
      obtain ⟨ao', c', e1, hc1⟩ := HC.out.stays HF.out.below
      injection e1 with e2 e3 e4
      subst e2
      obtain ⟨a, rfl, _, hx⟩ := hc1 k hkx
      obtain ⟨⟨u0, y0⟩, z0⟩ := HF.out.there hkx 0 (by omega)
      have HN := hide (HF.out.next hkx (y := [.string xs[k]]) rfl rfl)
      obtain ⟨x, ex⟩ : ∃ x, xs[k] = x := ⟨_, rfl⟩
      rw [ex] at hx HN
      rw [Nat.mul_one, Nat.add_zero] at y0 z0
      clear ex hc1 e3 e4
      go_wp2
      go_roundw
      case rel => exact ⟨k + 1, by rw [EN.out]; omega, by go_num, by have := HN.out; rwa [Nat.mul_one] at this⟩
      case measure => simp [intOf]; omega
    · have hlt' : ¬ (k : Int) < (n : Int) := by omega
      go_wp2
      go_ret
      exact ⟨_, rfl, by
        have := (HF.out.done (by rw [EN.out]; omega)).strs
        rwa [EN.out] at this, HF.out.below⟩

end Go.Proofs.Ytgeomgghecmkbaa

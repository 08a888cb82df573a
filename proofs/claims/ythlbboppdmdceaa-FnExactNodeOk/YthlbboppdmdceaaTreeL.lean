/-
  Walks: lists of names, bodies, by the specification.
-/
import Derived.Test.YthlbboppdmdceaaTreeQ
import Derived.Test.YthlbboppdmdceaaTreeX
import Derived.Test.YthlbboppdmdceaaNameW
namespace Go.Proofs.Ythlbboppdmdceaa
open Go.RowKit

def namesB (xs : List ByteArray) (most : Int) : Bool := xs.all nameB && decide ((xs.length : Int) ≤ most)
def NamesR (W : World) (xs : List ByteArray) (iv : Value) (wr : World) : Prop :=
  ∃ i : Nat, i ≤ xs.length ∧ iv = .int .i64 i ∧ Hid (Below W.heap.size W wr) ∧ Hid (∀ j x, j < i → xs[j]? = some x → nameB x = true)

set_option maxHeartbeats 1000000 in
theorem l05Names_any (v : Value) (xs : List ByteArray) (most : Int) (w : World) (hX : StrsAt w v xs) (hl : xs.length ≤ 1048576) (hs : ∀ x ∈ xs, x.size ≤ 1048576) :
    Calls Try.prog 59 #[v, .int .i64 most] w fun e w' => e = .returned (.bool (namesB xs most)) ∧ Below w.heap.size w w' := by
  have HX := hide hX
  obtain ⟨ao, c, rfl, _⟩ := hX
  obtain ⟨n, en⟩ : ∃ n, xs.length = n := ⟨_, rfl⟩
  have EN := hide en
  rw [en] at HX hl ⊢
  go_enter Try.func59, Try.ntmps59
  go_wp2
  go_loopw [5] (NamesR w xs) (fun iv _ => n - (intOf iv).toNat)
  case atStart => exact ⟨0, by omega, rfl, Below.refl _ _, fun j x hj => absurd hj (Nat.not_lt_zero j)⟩
  case round =>
    obtain ⟨i, hi, rfl, HB2, HA⟩ := hrel
    rw [en] at hi
    by_cases hlt : i < n
    · have hlt' : (i : Int) < (n : Int) := by omega
      have hi0 : (0 : Int) ≤ (i : Int) := by omega
      obtain ⟨ao', c', e5, hc⟩ := HX.out.stays HB2.out
      injection e5 with e6 e7 e8
      subst e6
      have hix : i < xs.length := by omega
      obtain ⟨a, rfl, _, hx⟩ := hc i hix
      have C := fun w => hide (specNameOk_any xs[i] w (hs _ (List.getElem_mem hix)))
      have EX : Hid (xs[i]? = some xs[i]) := List.getElem?_eq_getElem hix
      obtain ⟨x, ex⟩ : ∃ x, xs[i] = x := ⟨_, rfl⟩
      rw [ex] at hx EX
      simp only [ex] at C
      clear ex hc e7 e8 en
      cases hv : nameB x with
      | true =>
        rw [hv] at C
        go_wp2_with (go_at_call 19; refine (unhide (C _)).mono ?_; rintro e w2 ⟨rfl, hb2⟩; have HB3 := hide hb2; clear hb2)
        go_roundw
        case rel => exact ⟨i + 1, by rw [EN.out]; omega, by go_num, HB2.out.trans (HB3.out.mono HB2.out.size), fun j y hj hy => by
          rcases Nat.lt_succ_iff_lt_or_eq.1 hj with hj | hj
          · exact HA.out j y hj hy
          · subst hj; rw [EX.out] at hy; cases hy; exact hv⟩
        case measure => simp [intOf]; omega
      | false =>
        rw [hv] at C
        go_wp2_with (go_at_call 19; refine (unhide (C _)).mono ?_; rintro e w2 ⟨rfl, hb2⟩; have HB3 := hide hb2; clear hb2)
        go_ret
        exact ⟨by rw [namesB, List.all_eq_false.2 ⟨x, List.mem_iff_getElem?.2 ⟨i, EX.out⟩, by simp [hv]⟩]; rfl, HB2.out.trans (HB3.out.mono HB2.out.size)⟩
    · have hlt' : ¬ (i : Int) < (n : Int) := by omega
      have HF : Hid (namesB xs most = decide ((n : Int) ≤ most)) := by
        show _ = _
        rw [namesB, EN.out, List.all_eq_true.2 (fun x hx => by
          obtain ⟨j, hj⟩ := List.mem_iff_getElem?.1 hx
          exact HA.out j x (by have := (List.getElem?_eq_some_iff.1 hj).1; omega) hj)]
        rfl
      clear en
      go_wp2
      go_ret
      exact ⟨by rw [HF.out]; rfl, HB2.out⟩
end Go.Proofs.Ythlbboppdmdceaa

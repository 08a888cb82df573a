/-
  Scopes, by the specification: is a name in a list?
-/
import Derived.Test.YtmckcbgdkjbpfaaChecked
import Derived.Test.YtmckcbgdkjbpfaaUnlP
import Derived.BigQuiet
import Derived.WalkSmall
import Derived.Test.YtmckcbgdkjbpfaaAid
namespace Go.Proofs.Ytmckcbgdkjbpfaa
open Go.RowKit

def InR (w : World) (xs : List ByteArray) (s : ByteArray) (n : Nat) (iv : Value) (wr : World) : Prop := ∃ i : Nat, i ≤ n ∧ iv = .int .i64 i ∧ wr = w ∧ Hid (∀ j, j < i → xs[j]? ≠ some s)

set_option maxRecDepth 100000 in
set_option maxHeartbeats 1000000 in
theorem l08In_any (v : Value) (xs : List ByteArray) (s : ByteArray) (w : World) (h : StrsAt w v xs) (hl : xs.length ≤ 1048576) :
    Calls Try.prog 54 #[v, .string s] w fun e w' => e = .returned (.bool (memB xs s)) ∧ w' = w := by
  have H := hide h
  obtain ⟨ao, c, rfl, _⟩ := h
  obtain ⟨n, en⟩ : ∃ n, xs.length = n := ⟨_, rfl⟩
  have EN := hide en
  rw [en] at H hl ⊢
  clear en
  go_enter Try.func54, Try.ntmps54
  go_wp2
  go_loopw [5] (fun iv wr => InR w xs s n iv wr) (fun iv _ => n - (intOf iv).toNat)
  case atStart => exact ⟨0, by omega, rfl, rfl, fun j hj => absurd hj (Nat.not_lt_zero j)⟩
  case round =>
    obtain ⟨i, hi, rfl, rfl, HN⟩ := hrel
    by_cases hlt : i < n
    · have hlt' : (i : Int) < (n : Int) := by omega
      have hi0 : (0 : Int) ≤ (i : Int) := by omega
      have hix : i < xs.length := by rw [EN.out]; exact hlt
      obtain ⟨ao', c', e1, hc1⟩ := H.out
      injection e1 with e2 e3 e4
      subst e2
      obtain ⟨a, rfl, _, hx⟩ := hc1 i hix
      have EX : Hid (xs[i]? = some xs[i]) := List.getElem?_eq_getElem hix
      have HM : Hid (xs[i] ∈ xs) := List.getElem_mem hix
      obtain ⟨x, ex⟩ : ∃ x, xs[i] = x := ⟨_, rfl⟩
      rw [ex] at hx EX HM
      clear hc1 e3 e4 ex
      by_cases hxs : x = s
      · have HF : Hid (memB xs s = true) := memB_iff.2 (by rw [← hxs]; exact HM.out)
        subst hxs
        go_wp2
        go_ret
        exact ⟨by rw [HF.out]; rfl, rfl⟩
      · have hxs' : (x.toList == s.toList) = false := by rw [Bool.eq_false_iff]; exact fun h => hxs (str_beq.1 h)
        have HN2 : Hid (∀ j, j < i + 1 → xs[j]? ≠ some s) := fun j hj => by
          rcases Nat.lt_succ_iff_lt_or_eq.1 hj with hj | hj
          · exact HN.out j hj
          · subst hj; rw [EX.out]; exact fun q => hxs (Option.some.inj q)
        go_wp2
        go_roundw
        case rel => exact ⟨i + 1, by omega, by go_num, rfl, HN2⟩
        case measure => simp [intOf]; omega
    · have hlt' : ¬ (i : Int) < (n : Int) := by omega
      have HF : Hid (memB xs s = false) := memB_no.2 (fun q => by
        obtain ⟨j, hj, e⟩ := List.getElem_of_mem q
        exact HN.out j (by rw [EN.out] at hj; omega) (by rw [List.getElem?_eq_getElem hj, e]))
      go_wp2
      go_ret
      exact ⟨by rw [HF.out]; rfl, rfl⟩
end Go.Proofs.Ytmckcbgdkjbpfaa

namespace Go.Proofs.Ytmckcbgdkjbpfaa
open Go.RowKit

/-- A world of a class. -/
structure InC (S : World → Prop) where
  z : World
  h : S z
theorem wp_region_class {P : Program} (S : World → Prop) {id : Nat} {Q : Exit → Act → World → Prop} {a : Act} {w : World} {l : List Oper} (hm : P.follows .mixedOrders = true) (hB : Region.lexB .any l.toArray = true) (hC : S w.drew)
    (h : wpQuiet P l.toArray (fun w' => ∃ s : InC S, w' = s.z) (fun a' => ∀ s : InC S, Q .normal a' s.z) l a) : (Code.region id l.toArray true).wp P Q a w := by
  refine wp_region_quiet (C := fun w' => ∃ s : InC S, w' = s.z) hm hB ⟨⟨_, hC⟩, rfl⟩ ?_
  have e : (fun a' => ∀ w', (∃ s : InC S, w' = s.z) → Q .normal a' w') = (fun a' => ∀ s : InC S, Q .normal a' s.z) := by
    funext a'
    exact propext ⟨fun h s => h _ ⟨s, rfl⟩, fun h w' ⟨s, hs⟩ => by subst hs; exact h s⟩
  rw [e]
  simpa using h
/-- A callee's contract, in the class. -/
theorem calls_class {P : Program} {S : World → Prop} {f : FuncId} {args : Array Value} {v : Value} (s : InC S) (k : ∀ w', Below s.z.heap.size s.z w' → S w') (h : Calls P f args s.z fun e w' => e = .returned v ∧ Below s.z.heap.size s.z w') :
    Calls P f args s.z fun e w'' => e = .returned v ∧ ∃ s' : InC S, w'' = s'.z :=
  h.mono fun _ w' ⟨he, hb⟩ => ⟨he, ⟨w', k w' hb⟩, rfl⟩
theorem calls_class_same {P : Program} {S : World → Prop} {f : FuncId} {args : Array Value} {v : Value} (s : InC S) (h : Calls P f args s.z fun e w' => e = .returned v ∧ w' = s.z) :
    Calls P f args s.z fun e w'' => e = .returned v ∧ ∃ s' : InC S, w'' = s'.z :=
  h.mono fun _ _ ⟨he, hb⟩ => ⟨he, s, hb⟩
end Go.Proofs.Ytmckcbgdkjbpfaa

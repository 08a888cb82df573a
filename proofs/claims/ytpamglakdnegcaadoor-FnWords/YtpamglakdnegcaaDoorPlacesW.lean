/-
  Walks: the twelve drawn numbers.
-/
import Derived.Test.YtpamglakdnegcaaDoorCurN
import Derived.Test.YtpamglakdnegcaaDoorChecked
import Derived.BigQuiet
import Derived.Test.YtpamglakdnegcaaDoorAid
namespace Go.Proofs.YtpamglakdnegcaaDoor
open Go.RowKit

/-- What the loop over drawn numbers keeps. -/
def PlacesRel (w : World) (base : Nat) (v i : Value) (wr : World) : Prop :=
  ∃ (k : Nat) (xs : List Nat), k ≤ 12 ∧ i = .int .i64 k ∧ xs.length = k ∧ (∀ x ∈ xs, x < 10000) ∧ wr.ownsRow (w.heap.size + 1) 3 1 v k (xs.map fun (x : Nat) => Value.int .i64 (x : Int)) ∧ Below w.heap.size w wr ∧ Cur wr base w.heap.size

end Go.Proofs.YtpamglakdnegcaaDoor

namespace Go.Proofs.YtpamglakdnegcaaDoor
open Go.RowKit

theorem big_any (w : World) (a : Option Addr) (n c : Nat) : Calls Tryd.prog 8 #[.slice a n c] w fun e w' => e = .returned (.bool (decide (1048576 < n))) ∧ w = w' := by
  by_cases h : 1048576 < n
  · have b : decide (1048576 < n) = true := decide_eq_true h
    rw [b]
    have b2 : decide ((1048576 : Int) < (n : Int)) = true := by rw [decide_eq_true_eq]; omega
    clear h
    go_enter Tryd.func8, Tryd.ntmps8
    go_wp2
    go_ret
    exact ⟨rfl, rfl⟩
  · have b : decide (1048576 < n) = false := decide_eq_false h
    rw [b]
    have b2 : decide ((1048576 : Int) < (n : Int)) = false := by rw [decide_eq_false_iff_not]; omega
    clear h
    go_enter Tryd.func8, Tryd.ntmps8
    go_wp2
    go_ret
    exact ⟨rfl, rfl⟩

theorem row12 {w : World} {base : Nat} {pv : Value} {xs : List Nat} (hl : xs.length = 12) (h : w.ownsRow base 3 1 pv 12 (xs.map fun (x : Nat) => Value.int .i64 (x : Int))) :
    ∃ (gp cap : Nat), pv = .slice (some ⟨gp, 0, none⟩) 12 cap ∧ gp < w.heap.size ∧ ∀ j (hj : j < xs.length), w.cell? ⟨gp, j, none⟩ = some (.int .i64 (xs[j] : Int)) := by
  have h0 := h
  rcases h.2 with ⟨_, h2⟩ | ⟨b, cap, cur, rfl, h2, h3, h4, h5, h6, h7⟩
  · omega
  · refine ⟨b, cap, rfl, (Array.getElem?_eq_some_iff.1 h3).1, fun j hj => ?_⟩
    have := h0.cellAt j (by omega)
    rw [List.getElem?_map, List.getElem?_eq_getElem hj] at this
    exact this
end Go.Proofs.YtpamglakdnegcaaDoor

namespace Go.Proofs.YtpamglakdnegcaaDoor
open Go.RowKit

/-- A world of a class. -/
structure InC (S : World → Prop) where
  z : World
  h : S z
theorem wp_region_class {P : Program} (S : World → Prop) {id : Nat} {Q : Exit → Act → World → Prop} {a : Act} {w : World} {l : List Oper} (hm : P.follows .mixedOrders = true) (hB : Region.lexB .any l.toArray = true) (hC : S w.drew)
    (h : wpQuiet P l.toArray (fun w' => ∃ s : InC S, w' = s.z) (fun a' => ∀ s : InC S, Q .normal a' s.z) l a) : (Code.region id l.toArray true).wp P Q a w := by
  refine wp_region_quiet (C := fun w' => ∃ s : InC S, w' = s.z) hm hB ⟨⟨_, hC⟩, rfl⟩ ?_
  have e : (fun a' => ∀ w', (∃ s : InC S, w' = s.z) → Q .normal a' w') = (fun a' => ∀ s : InC S, Q .normal a' s.z) := by
    funext a'
    exact propext ⟨fun h s => h _ ⟨s, rfl⟩, fun h w' ⟨s, hs⟩ => by subst hs; exact h s⟩
  rw [e]
  simpa using h
/-- A callee's contract, in the class. -/
theorem calls_class {P : Program} {S : World → Prop} {f : FuncId} {args : Array Value} {v : Value} (s : InC S) (k : ∀ w', Below s.z.heap.size s.z w' → S w') (h : Calls P f args s.z fun e w' => e = .returned v ∧ Below s.z.heap.size s.z w') :
    Calls P f args s.z fun e w'' => e = .returned v ∧ ∃ s' : InC S, w'' = s'.z :=
  h.mono fun _ w' ⟨he, hb⟩ => ⟨he, ⟨w', k w' hb⟩, rfl⟩
theorem calls_class_same {P : Program} {S : World → Prop} {f : FuncId} {args : Array Value} {v : Value} (s : InC S) (h : Calls P f args s.z fun e w' => e = .returned v ∧ w' = s.z) :
    Calls P f args s.z fun e w'' => e = .returned v ∧ ∃ s' : InC S, w'' = s'.z :=
  h.mono fun _ _ ⟨he, hb⟩ => ⟨he, s, hb⟩
end Go.Proofs.YtpamglakdnegcaaDoor

/-
  A region that draws its order, whose own operations only read and whose callees may make memory: walked once, in a class of worlds that is kept.
-/
import Derived.Test.YtoageggcbpjlmaaChecked
import Derived.BigQuiet
import Derived.Test.YtoageggcbpjlmaaAid
namespace Go.Proofs.Ytoageggcbpjlmaa
open Go.RowKit

/-- A world of a class. -/
structure InC (S : World → Prop) where
  z : World
  h : S z
theorem wp_region_class {P : Program} (S : World → Prop) {id : Nat} {Q : Exit → Act → World → Prop} {a : Act} {w : World} {l : List Oper} (hm : P.follows .mixedOrders = true) (hB : Region.lexB .any l.toArray = true) (hC : S w.drew)
    (h : wpQuiet P l.toArray (fun w' => ∃ s : InC S, w' = s.z) (fun a' => ∀ s : InC S, Q .normal a' s.z) l a) : (Code.region id l.toArray true).wp P Q a w := by
  refine wp_region_quiet (C := fun w' => ∃ s : InC S, w' = s.z) hm hB ⟨⟨_, hC⟩, rfl⟩ ?_
  have e : (fun a' => ∀ w', (∃ s : InC S, w' = s.z) → Q .normal a' w') = (fun a' => ∀ s : InC S, Q .normal a' s.z) := by
    funext a'
    exact propext ⟨fun h s => h _ ⟨s, rfl⟩, fun h w' ⟨s, hs⟩ => by subst hs; exact h s⟩
  rw [e]
  simpa using h
/-- A callee's contract, in the class. -/
theorem calls_class {P : Program} {S : World → Prop} {f : FuncId} {args : Array Value} {v : Value} (s : InC S) (k : ∀ w', Below s.z.heap.size s.z w' → S w') (h : Calls P f args s.z fun e w' => e = .returned v ∧ Below s.z.heap.size s.z w') :
    Calls P f args s.z fun e w'' => e = .returned v ∧ ∃ s' : InC S, w'' = s'.z :=
  h.mono fun _ w' ⟨he, hb⟩ => ⟨he, ⟨w', k w' hb⟩, rfl⟩
theorem calls_class_same {P : Program} {S : World → Prop} {f : FuncId} {args : Array Value} {v : Value} (s : InC S) (h : Calls P f args s.z fun e w' => e = .returned v ∧ w' = s.z) :
    Calls P f args s.z fun e w'' => e = .returned v ∧ ∃ s' : InC S, w'' = s'.z :=
  h.mono fun _ _ ⟨he, hb⟩ => ⟨he, s, hb⟩
end Go.Proofs.Ytoageggcbpjlmaa

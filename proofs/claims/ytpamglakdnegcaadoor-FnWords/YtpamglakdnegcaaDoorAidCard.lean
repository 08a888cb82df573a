/-
  Package variables of a row, unopened: as many data as names.
-/
import Derived.OpenVars
import Derived.ChangeVars
namespace Go.Proofs.YtpamglakdnegcaaDoor
theorem trodVars_head {H : Type} {enc : TypeId × Value → H} {P : Program} {w : World} {sp : Nat → Bool} {n : String} {ns : List String} {gs : List (DataW H)} {ps : List MemPlace} (h : DataW.TrodVars enc P w sp (n :: ns) gs ps) :
    ∃ d ds q, gs = d :: ds ∧ DataW.TrodVars enc P w sp ns ds q := by
  cases gs with
  | nil => exact h.elim
  | cons d ds =>
    obtain ⟨g, t, cs, fuel, p, q, h1, h2, h3, h4, hs, e⟩ := h
    exact ⟨d, ds, q, rfl, hs⟩
end Go.Proofs.YtpamglakdnegcaaDoor

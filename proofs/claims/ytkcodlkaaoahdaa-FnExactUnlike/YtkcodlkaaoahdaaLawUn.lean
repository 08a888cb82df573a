/-
  The law of Unlike, out of its pieces; a row of texts that comes in.
-/
import Derived.Test.YtkcodlkaaoahdaaLawK
import Derived.Test.YtkcodlkaaoahdaaUnlW
import Derived.Test.YtkcodlkaaoahdaaSetW
namespace Go.Proofs.Ytkcodlkaaoahdaa
open Go.RowKit
open Go.ChangeShapes Go.WideShapes Go.ChangeAt Go.Deep

theorem szStrs_in {xs : List ByteArray} (h : szStrs xs ≤ 1048576) : xs.length ≤ 1048576 ∧ ∀ x ∈ xs, x.size ≤ 1048576 := by
  unfold szStrs at h
  exact ⟨by omega, fun x hx => by have := le_sum ByteArray.size xs x hx; omega⟩
theorem strs_of {H : Type} {enc : TypeId × Value → H} {W : World} {v : Value} {d : DataW H} {ps : List MemPlace}
    (h : DataW.Trod enc Try.prog W 0 (fun _ => true) true 22 v d ps) (hv : ∃ a len cap, v = .slice a len cap) : ∃ xs, StrsAt W v xs ∧ StrsMax xs := by
  obtain ⟨a, len, cap, rfl⟩ := hv
  obtain ⟨fuel, hf⟩ := h
  obtain ⟨v, ys, e, h1, h2⟩ := opens_strs _ _ _ hf
  simp [Value.cells] at e
  subst e
  exact ⟨ys, h1, h2⟩

set_option maxRecDepth 100000 in
set_option maxHeartbeats 2000000 in
theorem lawUnlike (v : Value) (xs : List ByteArray) (w : World) (h : StrsAt w v xs) (hm : StrsMax xs) :
    Calls Try.prog 3 #[v] w fun e w' => e = .returned (.bool true) ∧ Below w.heap.size w w' := by
  have H := hide h
  have HM := hide hm
  obtain ⟨ao, c, rfl, _⟩ := h
  clear hm
  go_enter Try.func3, Try.ntmps3
  go_wp2_with fail
  refine (szStringS_any _ xs _ _ (by omega) (by omega) H.out HM.out).mono ?_
  rintro e z1 ⟨r, rfl, hr, hb1⟩
  have HB1 := hide hb1
  have H1 := hide (H.out.stays hb1)
  clear hb1
  by_cases hr0 : r < 0
  · clear hr
    go_wp2
    go_ret
    exact ⟨rfl, HB1.out⟩
  have hI := szStrs_in (xs := xs) (by have := (hr.resolve_left hr0).2; omega)
  have HL : Hid (xs.length ≤ 1048576) := hI.1
  have HX : Hid (∀ x ∈ xs, x.size ≤ 1048576) := hI.2
  clear hr hI
  go_wp2_with fail
  refine (toStringS_any _ xs _ H1.out HL.out).mono ?_
  rintro e z2 ⟨v2, rfl, hc2, hb2⟩
  have HB2 := hide (HB1.out.trans (hb2.mono HB1.out.size))
  have H2 := hide (H1.out.stays hb2)
  have P2 := hide hc2.at
  clear hb2 hc2
  go_wp2_with fail
  refine (specUnlike_any _ xs _ P2.out HL.out).mono ?_
  rintro e z3 ⟨rfl, hb3⟩
  have HB3 := hide (HB2.out.trans (hb3.mono HB2.out.size))
  have H3 := hide (H2.out.stays hb3)
  clear hb3
  go_wp2_with fail
  refine (toStringS_any _ xs _ H3.out HL.out).mono ?_
  rintro e z4 ⟨v4, rfl, hc4, hb4⟩
  have HB4 := hide (HB3.out.trans (hb4.mono HB3.out.size))
  have H4 := hide (H3.out.stays hb4)
  have P4 := hide hc4.at
  clear hb4 hc4
  go_wp2_with fail
  refine (implUnlike_any _ xs _ P4.out HL.out HX.out).mono ?_
  rintro e z5 ⟨rfl, hb5⟩
  have HB5 := hide (HB4.out.trans (hb5.mono HB4.out.size))
  have H5 := hide (H4.out.stays hb5)
  have P5 := hide (P4.out.stays hb5)
  clear hb5
  go_wp2_with (first
    | (go_at_call 8; refine (toStringS_any _ xs _ H5.out HL.out).mono ?_; rintro e z6 ⟨v6, rfl, hc6, hb6⟩; have HB6 := hide (HB5.out.trans (hb6.mono HB5.out.size)); have P6 := hide hc6.at; have P7 := hide (P5.out.stays hb6); clear hb6 hc6)
    | (go_at_call 10; refine (eqStringS_same _ _ xs _ P7.out P6.out HL.out).mono ?_; rintro e z7 ⟨rfl, hb7⟩; have HB7 := hide (HB6.out.trans (hb7.mono HB6.out.size)); clear hb7))
  go_ret
  exact ⟨rfl, HB7.out⟩
end Go.Proofs.Ytkcodlkaaoahdaa

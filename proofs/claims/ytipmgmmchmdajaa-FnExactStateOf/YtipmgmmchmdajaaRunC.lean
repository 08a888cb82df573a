/-
  Walks: what comes, and how a thread stands, by the program.
-/
import Derived.Test.YtipmgmmchmdajaaRunA
import Derived.Test.YtipmgmmchmdajaaHasN
import Derived.Test.YtipmgmmchmdajaaStaW
import Derived.Test.YtipmgmmchmdajaaLwHb
import Derived.Test.YtipmgmmchmdajaaBoxR
namespace Go.Proofs.Ytipmgmmchmdajaa
open Go.RowKit

theorem Box.drewR {w : World} {g : Nat} {cs : Array Value} {t : TypeId} (h : Box w g cs t) : Box w.drew g cs t := h
/-- The box of the node that is answered. -/
structure RtN (w : World) (z : World) : Prop where
  bR : Box z w.heap.size #[.int .i64 0, .int .i64 0, .string ⟨#[]⟩, .string ⟨#[]⟩, .string ⟨#[]⟩, .slice none 0 0] 98
  bel : Below w.heap.size w z
theorem RtN.go {w z z' : World} (h : RtN w z) (hb : Below z.heap.size z z') : RtN w z' := ⟨h.bR.stays hb, h.bel.trans (hb.mono h.bel.size)⟩
/-- The kind of a node; 0 of what is none. -/
def kindN (ns : List Nd) (k : Int) : Int := if inZ 0 ((ns.length : Int) - 1) k = true then (ns.getD k.toNat default).kind else 0

set_option maxRecDepth 100000 in
set_option maxHeartbeats 8000000 in
theorem coming_any (b g : Nat) (no : Option Addr) (nc : Nat) (mo : Option Addr) (mn mc : Nat) (po : Option Addr) (pn pc : Nat) (ns : List Nd) (k : Int) (u4 u5 u6 u7 nx : Value) (w : World) (h : Box w b #[.slice no ns.length nc, .slice mo mn mc, .slice po pn pc, .pointer (some ⟨g, 0, none⟩), u4, u5, u6, u7] 86) (hg : Box w g #[.int .i64 k, nx] 120) (hN : NdsAt w (.slice no ns.length nc) ns) :
    Calls Try.prog 69 #[.pointer (some ⟨b, 0, none⟩)] w fun e w' => ∃ c1 c2 c3 c4 o n c, e = .returned (.tuple #[.agg #[.int .i64 (kindN ns k), .int .i64 c1, .string c2, .string c3, .string c4, .slice o n c], .bool (inZ 0 ((ns.length : Int) - 1) k)]) ∧ Below w.heap.size w w' := by
  have HB := hide h
  have HG := hide hg
  have HN := hide hN
  have CH := fun z h => hide (hasN_any (.slice no ns.length nc) (.slice mo mn mc) (.slice po pn pc) ns k z h)
  clear h hg hN
  obtain ⟨W0, hW⟩ : ∃ W0, w.alloc (.cells #[.int .i64 0, .int .i64 0, .string ⟨#[]⟩, .string ⟨#[]⟩, .string ⟨#[]⟩, .slice none 0 0] 98) = W0 := ⟨_, rfl⟩
  have C0 : Hid (RtN w W0) := by
    rw [← hW]
    exact hide ⟨Box.made w _ _, (Below.refl _ _).alloc (Nat.le_refl _) _⟩
  have HW := hide hW
  clear hW
  have KC : Hid (∀ z : World, RtN w z → z.cell? ⟨b, 0, none⟩ = some (.slice no ns.length nc) ∧ z.cell? ⟨b, 1, none⟩ = some (.slice mo mn mc) ∧ z.cell? ⟨b, 2, none⟩ = some (.slice po pn pc) ∧ z.cell? ⟨b, 3, none⟩ = some (.pointer (some ⟨g, 0, none⟩)) ∧ z.cell? ⟨g, 0, none⟩ = some (.int .i64 k) ∧ Hid (RtN w z)) := fun z hz => by
    have bx := HB.out.stays hz.bel
    exact ⟨Lib.cell_of_heap bx 0, Lib.cell_of_heap bx 1, Lib.cell_of_heap bx 2, Lib.cell_of_heap bx 3, Lib.cell_of_heap (HG.out.stays hz.bel) 0, hz⟩
  have KV : Hid (∀ z : World, (z.cell? ⟨b, 0, none⟩ = some (.slice no ns.length nc) ∧ z.cell? ⟨b, 1, none⟩ = some (.slice mo mn mc) ∧ z.cell? ⟨b, 2, none⟩ = some (.slice po pn pc) ∧ z.cell? ⟨b, 3, none⟩ = some (.pointer (some ⟨g, 0, none⟩)) ∧ z.cell? ⟨g, 0, none⟩ = some (.int .i64 k) ∧ Hid (RtN w z)) → RtN w z) := fun z hz => hz.2.2.2.2.2.out
  have KP : Hid (∀ z z' : World, (z.cell? ⟨b, 0, none⟩ = some (.slice no ns.length nc) ∧ z.cell? ⟨b, 1, none⟩ = some (.slice mo mn mc) ∧ z.cell? ⟨b, 2, none⟩ = some (.slice po pn pc) ∧ z.cell? ⟨b, 3, none⟩ = some (.pointer (some ⟨g, 0, none⟩)) ∧ z.cell? ⟨g, 0, none⟩ = some (.int .i64 k) ∧ Hid (RtN w z)) → Below z.heap.size z z' → (z'.cell? ⟨b, 0, none⟩ = some (.slice no ns.length nc) ∧ z'.cell? ⟨b, 1, none⟩ = some (.slice mo mn mc) ∧ z'.cell? ⟨b, 2, none⟩ = some (.slice po pn pc) ∧ z'.cell? ⟨b, 3, none⟩ = some (.pointer (some ⟨g, 0, none⟩)) ∧ z'.cell? ⟨g, 0, none⟩ = some (.int .i64 k) ∧ Hid (RtN w z'))) := fun z z' hz hb => KC.out _ ((KV.out _ hz).go hb)
  have K0 := hide (KC.out _ (C0.out.go (Below.refl _ _).drew))
  obtain ⟨kn, ekn⟩ : ∃ kn, kindN ns k = kn := ⟨_, rfl⟩
  have EK := hide ekn
  rw [ekn]
  clear ekn
  by_cases hk : inZ 0 ((ns.length : Int) - 1) k = true
  · rw [hk]
    simp only [hk] at CH
    have hk' := inZ_yes.1 hk
    obtain ⟨i, rfl⟩ : ∃ i : Nat, k = (i : Int) := ⟨k.toNat, by omega⟩
    have hi : i < ns.length := by omega
    have HE : Hid (kn = ns[i].kind) := by
      show _ = _
      rw [← EK.out, kindN, if_pos hk, Int.toNat_natCast, List.getD_eq_getElem?_getD, List.getElem?_eq_getElem hi]
      rfl
    clear hk EK
    go_enter Try.func69, Try.ntmps69
    go_wp2_with fail
    rw [HW.out]
    go_region_held3 (fun z => z.cell? ⟨b, 0, none⟩ = some (.slice no ns.length nc) ∧ z.cell? ⟨b, 1, none⟩ = some (.slice mo mn mc) ∧ z.cell? ⟨b, 2, none⟩ = some (.slice po pn pc) ∧ z.cell? ⟨b, 3, none⟩ = some (.pointer (some ⟨g, 0, none⟩)) ∧ z.cell? ⟨g, 0, none⟩ = some (.int .i64 (i : Int)) ∧ Hid (RtN w z)) (first | exact K0.out | exact KP.out _ _ (by assumption) hb6)
      ((go_at_call 78; refine (unhide (CH _ (HN.out.stays (KV.out _ (by assumption)).bel))).mono ?_; rintro e w6 ⟨rfl, hb6⟩))
    have RZ : Hid (RtN w w6) := KV.out _ (by assumption)
    clear KC KV KP K0 C0 HW CH
    rename_i hHeld
    clear hHeld
    have bx := HB.out.stays RZ.out.bel
    have t0 := Lib.cell_of_heap bx 0
    have t3 := Lib.cell_of_heap bx 3
    have t4 := Lib.cell_of_heap (HG.out.stays RZ.out.bel) 0
    obtain ⟨ao', c', e1, hc1⟩ := HN.out.stays RZ.out.bel
    injection e1 with e2 e3 e4
    subst e2
    obtain ⟨a, kv, rfl, ha, ⟨n0, n1, n2, n3, n4, n5, hki⟩⟩ := hc1 i hi
    obtain ⟨ko, kc, rfl, hjunk⟩ := hki
    clear hjunk
    have f0 := Lib.frozen_of_heap RZ.out.bR 0
    have f1 := Lib.frozen_of_heap RZ.out.bR 1
    have f2 := Lib.frozen_of_heap RZ.out.bR 2
    have f3 := Lib.frozen_of_heap RZ.out.bR 3
    have f4 := Lib.frozen_of_heap RZ.out.bR 4
    have f5 := Lib.frozen_of_heap RZ.out.bR 5
    have r0 := Lib.cell_of_heap RZ.out.bR 0
    have r1 := Lib.cell_of_heap RZ.out.bR 1
    have r2 := Lib.cell_of_heap RZ.out.bR 2
    have r3 := Lib.cell_of_heap RZ.out.bR 3
    have r4 := Lib.cell_of_heap RZ.out.bR 4
    have r5 := Lib.cell_of_heap RZ.out.bR 5
    simp at t0 t3 t4 r0 r1 r2 r3 r4 r5
    have hi0 : (0 : Int) ≤ (i : Int) := by omega
    have hi1 : (i : Int) < (ns.length : Int) := by omega
    have EF : Hid (∀ (z : World) (q0 q1 q2 q3 q4 q5 : Value), RtN w z → Box ((((((z.setCell ⟨w.heap.size, 0, none⟩ q0).setCell ⟨w.heap.size, 1, none⟩ q1).setCell ⟨w.heap.size, 2, none⟩ q2).setCell ⟨w.heap.size, 3, none⟩ q3).setCell ⟨w.heap.size, 4, none⟩ q4).setCell ⟨w.heap.size, 5, none⟩ q5) w.heap.size #[q0, q1, q2, q3, q4, q5] 98 ∧ Below w.heap.size w ((((((z.setCell ⟨w.heap.size, 0, none⟩ q0).setCell ⟨w.heap.size, 1, none⟩ q1).setCell ⟨w.heap.size, 2, none⟩ q2).setCell ⟨w.heap.size, 3, none⟩ q3).setCell ⟨w.heap.size, 4, none⟩ q4).setCell ⟨w.heap.size, 5, none⟩ q5)) := fun z q0 q1 q2 q3 q4 q5 hz => ⟨by simpa using (((((hz.bR.set 0 q0).set 1 q1).set 2 q2).set 3 q3).set 4 q4).set 5 q5, (((((hz.bel.setCell (p := ⟨w.heap.size, 0, none⟩) (Nat.le_refl _) _).setCell (p := ⟨w.heap.size, 1, none⟩) (Nat.le_refl _) _).setCell (p := ⟨w.heap.size, 2, none⟩) (Nat.le_refl _) _).setCell (p := ⟨w.heap.size, 3, none⟩) (Nat.le_refl _) _).setCell (p := ⟨w.heap.size, 4, none⟩) (Nat.le_refl _) _).setCell (p := ⟨w.heap.size, 5, none⟩) (Nat.le_refl _) _⟩
    obtain ⟨xi, exi⟩ : ∃ y, ns[i] = y := ⟨_, rfl⟩
    rw [exi] at n0 n1 n2 n3 n4 n5 HE
    obtain ⟨kl, ekl⟩ : ∃ y, xi.kids.length = y := ⟨_, rfl⟩
    rw [ekl] at n5
    obtain ⟨nn, enn⟩ : ∃ y, ns.length = y := ⟨_, rfl⟩
    rw [enn] at t0 hi1 ⊢
    clear bx hc1 e3 e4 HB HG HN hb6 hk' exi ekl enn hi
    go_wp2_with fail
    go_region
    have R := EF.out w6 (.int .i64 xi.kind) (.int .i64 xi.num) (.string xi.name) (.string xi.more) (.string xi.into) (.slice ko kl kc) RZ.out
    have HR := hide R
    clear R EF
    go_wp2
    refine box_retV (g := w.heap.size) (t := 98) (cs := #[.int .i64 xi.kind, .int .i64 xi.num, .string xi.name, .string xi.more, .string xi.into, .slice ko kl kc]) rfl rfl ?_ _ Try.underlying98 rfl (by kernel_rfl) rfl ?_
    · exact Box.drewR HR.out.1
    · exact ⟨_, _, _, _, _, _, _, by rw [HE.out]; rfl, HR.out.2.drew⟩
  · have hk' : inZ 0 ((ns.length : Int) - 1) k = false := by simpa using hk
    rw [hk']
    simp only [hk'] at CH
    obtain rfl : kn = 0 := by rw [← EK.out, kindN, if_neg hk]
    clear hk hk' EK
    go_enter Try.func69, Try.ntmps69
    go_wp2_with fail
    rw [HW.out]
    go_region_held3 (fun z => z.cell? ⟨b, 0, none⟩ = some (.slice no ns.length nc) ∧ z.cell? ⟨b, 1, none⟩ = some (.slice mo mn mc) ∧ z.cell? ⟨b, 2, none⟩ = some (.slice po pn pc) ∧ z.cell? ⟨b, 3, none⟩ = some (.pointer (some ⟨g, 0, none⟩)) ∧ z.cell? ⟨g, 0, none⟩ = some (.int .i64 k) ∧ Hid (RtN w z)) (first | exact K0.out | exact KP.out _ _ (by assumption) hb6)
      ((go_at_call 78; refine (unhide (CH _ (HN.out.stays (KV.out _ (by assumption)).bel))).mono ?_; rintro e w6 ⟨rfl, hb6⟩))
    have RZ : Hid (RtN w w6) := KV.out _ (by assumption)
    clear KC KV KP K0 C0 HW CH
    rename_i hHeld
    clear hHeld
    have f0 := Lib.frozen_of_heap RZ.out.bR 0
    have f1 := Lib.frozen_of_heap RZ.out.bR 1
    have f2 := Lib.frozen_of_heap RZ.out.bR 2
    have f3 := Lib.frozen_of_heap RZ.out.bR 3
    have f4 := Lib.frozen_of_heap RZ.out.bR 4
    have f5 := Lib.frozen_of_heap RZ.out.bR 5
    have r0 := Lib.cell_of_heap RZ.out.bR 0
    have r1 := Lib.cell_of_heap RZ.out.bR 1
    have r2 := Lib.cell_of_heap RZ.out.bR 2
    have r3 := Lib.cell_of_heap RZ.out.bR 3
    have r4 := Lib.cell_of_heap RZ.out.bR 4
    have r5 := Lib.cell_of_heap RZ.out.bR 5
    simp at r0 r1 r2 r3 r4 r5
    have EF : Hid (∀ (z : World) (q0 q1 q2 q3 q4 q5 : Value), RtN w z → Box ((((((z.setCell ⟨w.heap.size, 0, none⟩ q0).setCell ⟨w.heap.size, 1, none⟩ q1).setCell ⟨w.heap.size, 2, none⟩ q2).setCell ⟨w.heap.size, 3, none⟩ q3).setCell ⟨w.heap.size, 4, none⟩ q4).setCell ⟨w.heap.size, 5, none⟩ q5) w.heap.size #[q0, q1, q2, q3, q4, q5] 98 ∧ Below w.heap.size w ((((((z.setCell ⟨w.heap.size, 0, none⟩ q0).setCell ⟨w.heap.size, 1, none⟩ q1).setCell ⟨w.heap.size, 2, none⟩ q2).setCell ⟨w.heap.size, 3, none⟩ q3).setCell ⟨w.heap.size, 4, none⟩ q4).setCell ⟨w.heap.size, 5, none⟩ q5)) := fun z q0 q1 q2 q3 q4 q5 hz => ⟨by simpa using (((((hz.bR.set 0 q0).set 1 q1).set 2 q2).set 3 q3).set 4 q4).set 5 q5, (((((hz.bel.setCell (p := ⟨w.heap.size, 0, none⟩) (Nat.le_refl _) _).setCell (p := ⟨w.heap.size, 1, none⟩) (Nat.le_refl _) _).setCell (p := ⟨w.heap.size, 2, none⟩) (Nat.le_refl _) _).setCell (p := ⟨w.heap.size, 3, none⟩) (Nat.le_refl _) _).setCell (p := ⟨w.heap.size, 4, none⟩) (Nat.le_refl _) _).setCell (p := ⟨w.heap.size, 5, none⟩) (Nat.le_refl _) _⟩
    have R := EF.out w6 (.int .i64 0) (.int .i64 0) (.string ⟨#[]⟩) (.string ⟨#[]⟩) (.string ⟨#[]⟩) (.slice none 0 0) RZ.out
    have HR := hide R
    clear R EF
    go_wp2
    refine box_retV (g := w.heap.size) (t := 98) (cs := #[.int .i64 0, .int .i64 0, .string ⟨#[]⟩, .string ⟨#[]⟩, .string ⟨#[]⟩, .slice none 0 0]) rfl rfl ?_ _ Try.underlying98 rfl (by kernel_rfl) rfl ?_
    · exact HR.out.1
    · exact ⟨_, _, _, _, _, _, _, rfl, HR.out.2⟩
end Go.Proofs.Ytipmgmmchmdajaa

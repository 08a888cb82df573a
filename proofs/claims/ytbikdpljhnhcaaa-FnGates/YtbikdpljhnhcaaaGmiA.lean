/-
  Walk: a new gate by the program.
-/
import Derived.Test.YtbikdpljhnhcaaaMovI
import Derived.Test.YtbikdpljhnhcaaaEnvT
import Derived.Test.YtbikdpljhnhcaaaCopG
import Derived.Deep.RegionHeld3
namespace Go.Proofs.Ytbikdpljhnhcaaa
open Go.RowKit

theorem Box.fill3 {z : World} {g : Nat} {a b c : Value} {T : TypeId} (h : Box z g #[a, b, c] T) (x y u : Value) : Box (((z.setCell ⟨g, 0, none⟩ x).setCell ⟨g, 1, none⟩ y).setCell ⟨g, 2, none⟩ u) g #[x, y, u] T := by
  simpa using ((h.set 0 x).set 1 y).set 2 u
theorem fill3_other (z : World) (g : Nat) (x y u : Value) (k : Nat) (hk : k ≠ g) : (((z.setCell ⟨g, 0, none⟩ x).setCell ⟨g, 1, none⟩ y).setCell ⟨g, 2, none⟩ u).heap[k]? = z.heap[k]? :=
  (Below.heap_setCell _ ⟨g, 2, none⟩ _ k hk).trans ((Below.heap_setCell _ ⟨g, 1, none⟩ _ k hk).trans (Below.heap_setCell _ ⟨g, 0, none⟩ _ k hk))
theorem fill3_below {B : Nat} {w z : World} (h : Below B w z) (g : Nat) (hg : B ≤ g) (x y u : Value) : Below B w (((z.setCell ⟨g, 0, none⟩ x).setCell ⟨g, 1, none⟩ y).setCell ⟨g, 2, none⟩ u) :=
  ((h.setCell (p := ⟨g, 0, none⟩) hg x).setCell (p := ⟨g, 1, none⟩) hg y).setCell (p := ⟨g, 2, none⟩) hg u
theorem repl_len (n : Nat) (v : Value) : (List.replicate n v).length = n := List.length_replicate

set_option maxRecDepth 100000 in
set_option maxHeartbeats 2000000 in
theorem implGateNew_any (q : Int) (w : World) : Calls Try.prog 24 #[.int .i64 q] w fun e w' => ∃ r1 r2, e = .returned (.agg #[.int .i64 (gateNewE q).owner, r1, r2]) ∧ GtOwn w.heap.size w' r1 r2 (gateNewE q) ∧ Below w.heap.size w w' := by
  obtain ⟨n, en⟩ : ∃ n, min q.toNat 2 = n := ⟨_, rfl⟩
  have hn : n ≤ 2 := by omega
  have CR : ∀ (b : Nat) (z : World) (m : Int), (n : Int) = m → z.cell? ⟨b, 0, none⟩ = some (I64 (-1)) → b < z.heap.size → Hid (Calls Try.prog 45 #[.slice (some ⟨b, 0, none⟩) 1 1, .int .i64 m] z fun e w' => ∃ v', e = .returned v' ∧ w'.ownsRow z.heap.size 3 1 v' n (List.replicate n (I64 (-1))) ∧ Below z.heap.size z w') := by
    rintro b z m rfl h1 h2
    exact hide (repeat_any b n z hn h1 h2)
  have HE : Hid (gateNewE q = ⟨-1, [], List.replicate n (-1)⟩) := hide (by unfold gateNewE; rw [en])
  obtain ⟨W1, hW⟩ : ∃ W1, ((w.alloc (.cells #[.int .i64 0, .slice none 0 0, .slice none 0 0] 26)).alloc (.cells #[] 3)).alloc (.cells #[.int .i64 (-1)] 3) = W1 := ⟨_, rfl⟩
  have HW := hide hW
  have B1 : Hid (Below w.heap.size w W1) := by rw [← hW]; show Below w.heap.size w _; go_grown
  have BR : Hid (Box W1 w.heap.size #[.int .i64 0, .slice none 0 0, .slice none 0 0] 26) := by
    rw [← hW]; exact hide (((Box.made w _ _).stays ((Below.refl _ _).alloc (Nat.le_refl _) _)).stays ((Below.refl _ _).alloc (Nat.le_refl _) _))
  have BE : Hid (Box W1 (w.heap.size + 1) #[] 3) := by
    rw [← hW]; exact hide ((Box.madeAt (by simp) _ _).stays ((Below.refl _ _).alloc (Nat.le_refl _) _))
  have BN : Hid (Box W1 (w.heap.size + 1 + 1) #[.int .i64 (-1)] 3) := by
    rw [← hW]; exact hide (Box.madeAt (by simp) _ _)
  have HS : Hid (W1.heap.size = w.heap.size + 3) := by rw [← hW]; show _ = _; simp
  clear hW
  have hqs : q < 0 ∨ q > 2 ∨ (q = 0 ∨ q = 1 ∨ q = 2) := by omega
  obtain ⟨m, hm⟩ : ∃ m : Int, (n : Int) = m := ⟨_, rfl⟩
  go_enter Try.func24, Try.ntmps24
  go_wp2_with fail
  all_goals
    rw [HW.out]
    refine (unhide (CR _ _ _ (by omega) (Lib.cell_of_heap BN.out 0) BN.out.lt)).mono ?_
    rintro e w2 ⟨r2, rfl, ho, hb⟩
    obtain ⟨p2, k2, rfl⟩ := form_own ho
    have BR2 := hide (BR.out.stays hb)
    have BE2 := hide (BE.out.stays hb)
    have s0 := Lib.cell_of_heap BR2.out 0
    have s1 := Lib.cell_of_heap BR2.out 1
    have s2 := Lib.cell_of_heap BR2.out 2
    have f0 := Lib.frozen_of_heap BR2.out 0
    have f1 := Lib.frozen_of_heap BR2.out 1
    have f2 := Lib.frozen_of_heap BR2.out 2
    simp at s0 s1 s2
    have HO := hide ho
    have HB : Hid (Below w.heap.size w w2) := hide (B1.out.trans (hb.mono B1.out.size))
    have HSB := hide hb.size
    clear ho hb
    go_wp2
    refine box_ret (g := w.heap.size) (t := 26) (cs := #[.int .i64 (-1), .slice (some ⟨w.heap.size + 1, 0, none⟩) 0 0, .slice p2 n k2]) rfl rfl ?_ _ Try.underlying26 rfl (by kernel_rfl) rfl ?_
    · exact BR2.out.fill3 _ _ _
    · rw [HE.out]
      refine ⟨_, _, rfl, ⟨?_, ?_, ?_⟩, fill3_below HB.out _ (Nat.le_refl _) _ _ _⟩
      · exact ⟨rfl, .inr ⟨w.heap.size + 1, 0, #[], rfl, by omega, (fill3_other _ _ _ _ _ _ (by omega)).trans BE2.out, Nat.le_refl _, by unfold maxLen; omega, rfl, rfl⟩⟩
      · show World.ownsRow _ _ _ _ _ (List.replicate n (-1)).length ((List.replicate n (-1)).map I64)
        rw [List.length_replicate, List.map_replicate]
        exact owns_lo (owns_eq HO.out fun g hg => fill3_other _ _ _ _ _ _ (by have := (HO.out.lt g hg).1; have := HS.out; omega)) (by have := HS.out; omega)
      · intro i hi h2
        have h3 := (HO.out.lt i h2).1
        have h4 : w.heap.size + 1 = i := by injection hi
        have := HS.out
        omega
end Go.Proofs.Ytbikdpljhnhcaaa

namespace Go.Proofs.Ytbikdpljhnhcaaa
open Go.RowKit

set_option maxRecDepth 100000 in
set_option maxHeartbeats 8000000 in
theorem copiedG_any (v1 v2 : Value) (x : Gt) (w : World) (h : GtAt w v1 v2 x) (hl : GtLen x) :
    Calls Try.prog 29 #[.agg #[.int .i64 x.owner, v1, v2]] w fun e w' => ∃ r1 r2, e = .returned (.agg #[.int .i64 x.owner, r1, r2]) ∧ GtOwn w.heap.size w' r1 r2 x ∧ Below w.heap.size w w' ∧ FullV r1 x.waits.length := by
  have HA := hide h
  have L1 := hl.l1
  have L2 := hl.l2
  have C1 := fun z h => hide (moved_any v1 x.waits z h L1)
  have C2 := fun z h => hide (moved_any v2 x.queues z h L2)
  obtain ⟨o1, c1, rfl, _⟩ := h.a1
  obtain ⟨o2, c2, rfl, _⟩ := h.a2
  clear h hl
  obtain ⟨W0, hW⟩ : ∃ W0, (w.alloc (.cells #[.int .i64 x.owner, .slice o1 x.waits.length c1, .slice o2 x.queues.length c2] 26)).alloc (.cells #[.int .i64 0, .slice none 0 0, .slice none 0 0] 26) = W0 := ⟨_, rfl⟩
  have C0 : Hid (CpGt w W0 #[.int .i64 x.owner, .slice o1 x.waits.length c1, .slice o2 x.queues.length c2] W0) := by
    rw [← hW]
    exact hide ⟨(Box.made w #[.int .i64 x.owner, .slice o1 x.waits.length c1, .slice o2 x.queues.length c2] 26).stays ((Below.refl _ _).alloc (Nat.le_refl _) _), ⟨_, _, _, Box.madeAt (by simp) _ _⟩, by go_grown, by simp⟩
  have HZ : Hid (W0.heap.size = w.heap.size + 2) := by rw [← hW]; show _ = _; simp
  have HW := hide hW
  clear hW
  have KC : Hid (∀ z : World, CpGt w W0 #[.int .i64 x.owner, .slice o1 x.waits.length c1, .slice o2 x.queues.length c2] z → (z.cell? ⟨w.heap.size, 0, none⟩ = some (.int .i64 x.owner) ∧ z.cell? ⟨w.heap.size, 1, none⟩ = some (.slice o1 x.waits.length c1) ∧ z.cell? ⟨w.heap.size, 2, none⟩ = some (.slice o2 x.queues.length c2) ∧ Hid (CpGt w W0 #[.int .i64 x.owner, .slice o1 x.waits.length c1, .slice o2 x.queues.length c2] z))) := fun z hz => ⟨Lib.cell_of_heap hz.bA 0, Lib.cell_of_heap hz.bA 1, Lib.cell_of_heap hz.bA 2, hz⟩
  have KV : Hid (∀ z : World, (z.cell? ⟨w.heap.size, 0, none⟩ = some (.int .i64 x.owner) ∧ z.cell? ⟨w.heap.size, 1, none⟩ = some (.slice o1 x.waits.length c1) ∧ z.cell? ⟨w.heap.size, 2, none⟩ = some (.slice o2 x.queues.length c2) ∧ Hid (CpGt w W0 #[.int .i64 x.owner, .slice o1 x.waits.length c1, .slice o2 x.queues.length c2] z)) → CpGt w W0 #[.int .i64 x.owner, .slice o1 x.waits.length c1, .slice o2 x.queues.length c2] z) := fun z hz => hz.2.2.2.out
  have KP : Hid (∀ z z' : World, (z.cell? ⟨w.heap.size, 0, none⟩ = some (.int .i64 x.owner) ∧ z.cell? ⟨w.heap.size, 1, none⟩ = some (.slice o1 x.waits.length c1) ∧ z.cell? ⟨w.heap.size, 2, none⟩ = some (.slice o2 x.queues.length c2) ∧ Hid (CpGt w W0 #[.int .i64 x.owner, .slice o1 x.waits.length c1, .slice o2 x.queues.length c2] z)) → Below z.heap.size z z' → (z'.cell? ⟨w.heap.size, 0, none⟩ = some (.int .i64 x.owner) ∧ z'.cell? ⟨w.heap.size, 1, none⟩ = some (.slice o1 x.waits.length c1) ∧ z'.cell? ⟨w.heap.size, 2, none⟩ = some (.slice o2 x.queues.length c2) ∧ Hid (CpGt w W0 #[.int .i64 x.owner, .slice o1 x.waits.length c1, .slice o2 x.queues.length c2] z'))) := fun z z' hz hb => KC.out _ ((KV.out _ hz).go (hb.mono (KV.out _ hz).le))
  have K0 := hide (KC.out _ (C0.out.go (Below.refl _ _).drew))
  have KR0 : Hid (∀ z : World, (z.cell? ⟨w.heap.size, 0, none⟩ = some (.int .i64 x.owner) ∧ z.cell? ⟨w.heap.size, 1, none⟩ = some (.slice o1 x.waits.length c1) ∧ z.cell? ⟨w.heap.size, 2, none⟩ = some (.slice o2 x.queues.length c2) ∧ Hid (CpGt w W0 #[.int .i64 x.owner, .slice o1 x.waits.length c1, .slice o2 x.queues.length c2] z)) → GtAt z (.slice o1 x.waits.length c1) (.slice o2 x.queues.length c2) x) := fun z hz => HA.out.stays (KV.out _ hz).bel
  go_enter Try.func29, Try.ntmps29
  go_wp2_with fail
  rw [HW.out]
  go_region_held3 (fun z => z.cell? ⟨w.heap.size, 0, none⟩ = some (.int .i64 x.owner) ∧ z.cell? ⟨w.heap.size, 1, none⟩ = some (.slice o1 x.waits.length c1) ∧ z.cell? ⟨w.heap.size, 2, none⟩ = some (.slice o2 x.queues.length c2) ∧ Hid (CpGt w W0 #[.int .i64 x.owner, .slice o1 x.waits.length c1, .slice o2 x.queues.length c2] z)) (first | exact K0.out | exact KP.out _ _ (by assumption) hb6 | exact KP.out _ _ (by assumption) hb7 | exact KC.out _ (CW.out.store _ _ _).1)
    (first
      | (go_at_call_of 47 (Value.slice o1 x.waits.length c1); refine (unhide (C1 _ (KR0.out _ (by assumption)).a1)).mono ?_; rintro e w6 ⟨u6, rfl, hq6, hb6, hf6⟩; obtain ⟨po6, pc6, rfl⟩ := form_own hq6; have HF6 := hide hf6; clear hf6; have CW := hide (KV.out _ (KP.out _ _ (by assumption) hb6)); obtain ⟨rr0, rr1, rr2, hrr⟩ := CW.out.bR; have y0 := Lib.cell_of_heap hrr 0; simp at y0; have f0 := Lib.frozen_of_heap hrr 0; have y1 := Lib.cell_of_heap hrr 1; simp at y1; have f1 := Lib.frozen_of_heap hrr 1; have y2 := Lib.cell_of_heap hrr 2; simp at y2; have f2 := Lib.frozen_of_heap hrr 2; clear hrr)
      | (go_at_call_of 47 (Value.slice o2 x.queues.length c2); refine (unhide (C2 _ (KR0.out _ (by assumption)).a2)).mono ?_; rintro e w7 ⟨u7, rfl, hq7, hb7, _⟩; obtain ⟨po7, pc7, rfl⟩ := form_own hq7; have CW := hide (KV.out _ (KP.out _ _ (by assumption) hb7)); obtain ⟨rr0, rr1, rr2, hrr⟩ := CW.out.bR; have y0 := Lib.cell_of_heap hrr 0; simp at y0; have f0 := Lib.frozen_of_heap hrr 0; have y1 := Lib.cell_of_heap hrr 1; simp at y1; have f1 := Lib.frozen_of_heap hrr 1; have y2 := Lib.cell_of_heap hrr 2; simp at y2; have f2 := Lib.frozen_of_heap hrr 2; clear hrr))
  have HS := CW.out.store (.int .i64 x.owner) (.slice po6 x.waits.length pc6) (.slice po7 x.queues.length pc7)
  have E6 := ownsInts_stays hq6 hb7
  have hs6 : W0.drew.heap.size = w.heap.size + 2 := HZ.out
  have hs7 := hb6.size
  have AP : ∀ i, ((.slice po6 x.waits.length pc6) : Value).ownBlock = some i → ((.slice po7 x.queues.length pc7) : Value).ownBlock ≠ some i := fun i h6 h7 => by
    have h8 := (hq6.lt i h6).2
    have h9 := (hq7.lt i h7).1
    omega
  obtain ⟨WR, eWR⟩ : ∃ WR, ((w7.setCell ⟨w.heap.size + 1, 0, none⟩ (.int .i64 x.owner)).setCell ⟨w.heap.size + 1, 1, none⟩ (.slice po6 x.waits.length pc6)).setCell ⟨w.heap.size + 1, 2, none⟩ (.slice po7 x.queues.length pc7) = WR := ⟨_, rfl⟩
  have R6 := owns_lo (a := w.heap.size) (owns_eq E6 (z' := WR) fun g hg => by have hg2 := (E6.lt g hg).1; rw [← eWR]; exact fill3_other _ _ _ _ _ _ (by omega)) (by omega)
  have R7 := owns_lo (a := w.heap.size) (owns_eq hq7 (z' := WR) fun g hg => by have hg2 := (hq7.lt g hg).1; rw [← eWR]; exact fill3_other _ _ _ _ _ _ (by omega)) (by omega)
  rw [eWR] at HS
  have RES : Hid (GtOwn w.heap.size WR (.slice po6 x.waits.length pc6) (.slice po7 x.queues.length pc7) x ∧ Below w.heap.size w WR) := ⟨⟨R6, R7, AP⟩, HS.1.bel⟩
  have HBX := hide HS.2
  have EWR := hide eWR
  clear HS E6 hs6 hs7 AP R6 R7 eWR
  go_wp2
  rw [EWR.out]
  refine box_ret (g := w.heap.size + 1) (t := 26) (cs := #[.int .i64 x.owner, .slice po6 x.waits.length pc6, .slice po7 x.queues.length pc7]) rfl rfl ?_ _ Try.underlying26 rfl (by kernel_rfl) rfl ?_
  · exact HBX.out
  · exact ⟨_, _, rfl, RES.out.1, RES.out.2, HF6.out⟩
end Go.Proofs.Ytbikdpljhnhcaaa

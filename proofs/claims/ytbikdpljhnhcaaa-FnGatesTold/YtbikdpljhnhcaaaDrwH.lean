/-
  Walks: gates that are drawn.
-/
import Derived.Test.YtbikdpljhnhcaaaGtQ
import Derived.Test.YtbikdpljhnhcaaaGatB
import Derived.Test.YtbikdpljhnhcaaaGatD
import Derived.Test.YtbikdpljhnhcaaaGatE
import Derived.Test.YtbikdpljhnhcaaaGatF
import Derived.Test.YtbikdpljhnhcaaaCurN
import Derived.Deep.CutRange
import Derived.Deep.RegionLaw
namespace Go.Proofs.Ytbikdpljhnhcaaa
open Go.RowKit

/-- A call of a Go function by its contract, as one step of a region that draws. -/
theorem step_callG {P : Program} {W : World} {ops : Array Oper} {o : Oper} {a : Act} {K : Act → World → Prop} {Q : Exit → Act → World → Prop} {E : Prop} (hgd : o.guard = none) (f : FuncId) (args : Array Value)
    (hrun : (execOp a.eval o).run P W = .ok (.enter f args) W) {R : Ending → World → Prop} (hc : Calls P f args W R) (h : ∀ e w', R e w' → ∃ v, e = .returned v ∧ K (a.put o.dst v) w') :
    if Region.wanted o (yielded ops a.tmps) = true then Oper.wp P o a W K Q else E := by
  have hw : Region.wanted o (yielded ops a.tmps) = true := by simp [Region.wanted, hgd]
  rw [if_pos hw]
  unfold Oper.wp
  rw [hrun, Oper.upon_enter]
  refine hc.mono fun e w' hR => ?_
  obtain ⟨v, rfl, hk⟩ := h e w' hR
  exact hk
theorem box_farG {g : Nat} {w w' : World} (h : Far g w w') {b : Nat} {cs : Array Value} {T : TypeId} (hb : Box w b cs T) (hg : b ≠ g) : Box w' b cs T := (h.far b hg hb.lt).trans hb
theorem GtOwn.far {B g : Nat} {w w' : World} {r1 r2 : Value} {y : Gt} (h : GtOwn B w r1 r2 y) (hf : Far g w w') (hg : g < B) : GtOwn B w' r1 r2 y := ⟨ownsRow_far h.o1 hf hg, ownsRow_far h.o2 hf hg, h.ap⟩
/-- While a gate is drawn: the result at R, the gate at G; the cursor g. -/
structure DgZ (w : World) (base g R G : Nat) (r1 r2 : Value) (y : Gt) (z : World) : Prop where
  bR : ∃ a b c, Box z R #[a, b, c] 26
  bO : Box z G #[.int .i64 y.owner, r1, r2] 26
  own : GtOwn (R + 1) z r1 r2 y
  far : Far g w z
  cur : Cur z base g
  lt : g < w.heap.size
  hR : w.heap.size ≤ R
  hG : R < G
theorem DgZ.stays {w : World} {base g R G : Nat} {r1 r2 : Value} {y : Gt} {z z' : World} (h : DgZ w base g R G r1 r2 y z) (hb : Below z.heap.size z z') : DgZ w base g R G r1 r2 y z' := by
  obtain ⟨a, b, c, hr⟩ := h.bR
  have := h.lt
  have := hr.lt
  have := h.hR
  exact ⟨⟨a, b, c, hr.stays hb⟩, h.bO.stays hb, h.own.stays hb, Below.far' h.far (by omega) hb, h.cur.below (hb.mono (by omega)), h.lt, h.hR, h.hG⟩
theorem DgZ.draws {w : World} {base g R G : Nat} {r1 r2 : Value} {y : Gt} {z z' : World} (h : DgZ w base g R G r1 r2 y z) (hf : Far g z z') (hc : Cur z' base g) : DgZ w base g R G r1 r2 y z' := by
  obtain ⟨a, b, c, hr⟩ := h.bR
  have := h.lt
  have := h.hR
  have := h.hG
  exact ⟨⟨a, b, c, box_farG hf hr (by omega)⟩, box_farG hf h.bO (by omega), h.own.far hf (by omega), h.far.trans hf, hc, h.lt, h.hR, h.hG⟩
/-- Another gate is put in its place. -/
theorem DgZ.put {w : World} {base g R G : Nat} {r1 r2 q1 q2 : Value} {y x : Gt} {z z' : World} (h : DgZ w base g R G r1 r2 y z) (hb : Below z.heap.size z z') (ho : GtOwn z.heap.size z' q1 q2 x) :
    DgZ w base g R G q1 q2 x (((z'.setCell ⟨G, 0, none⟩ (.int .i64 x.owner)).setCell ⟨G, 1, none⟩ q1).setCell ⟨G, 2, none⟩ q2) := by
  have k := h.stays hb
  obtain ⟨a, b, c, hr⟩ := k.bR
  have hl := h.bO.lt
  have := h.lt
  have := h.hR
  have := h.hG
  have hbel : Below (R + 1) z' (((z'.setCell ⟨G, 0, none⟩ (.int .i64 x.owner)).setCell ⟨G, 1, none⟩ q1).setCell ⟨G, 2, none⟩ q2) := (((Below.refl _ _).setCell (p := ⟨G, 0, none⟩) (show R + 1 ≤ G by omega) _).setCell (p := ⟨G, 1, none⟩) (show R + 1 ≤ G by omega) _).setCell (p := ⟨G, 2, none⟩) (show R + 1 ≤ G by omega) _
  have hG1 := k.bO.set 0 (.int .i64 x.owner)
  rw [set_first] at hG1
  have hG2 := hG1.set 1 q1
  rw [set_second] at hG2
  have hG3 := hG2.set 2 q2
  rw [set_thd] at hG3
  refine ⟨⟨a, b, c, ((hr.other ⟨G, 0, none⟩ _ (by show R ≠ G; omega)).other ⟨G, 1, none⟩ _ (by show R ≠ G; omega)).other ⟨G, 2, none⟩ _ (by show R ≠ G; omega)⟩, hG3, ?_, Below.far' k.far (by omega) hbel, k.cur.below (hbel.mono (by omega)), h.lt, h.hR, h.hG⟩
  exact ((((ho.boxG (i := 0) k.bO (by decide) _).boxG (i := 1) hG1 (by decide) _).boxG (i := 2) hG2 (by decide) _)).lo (by omega)
/-- What is handed back. -/
theorem DgZ.fin {w : World} {base g R G : Nat} {r1 r2 : Value} {y : Gt} {z : World} (h : DgZ w base g R G r1 r2 y z) :
    ∃ W, ((z.setCell ⟨R, 0, none⟩ (.int .i64 y.owner)).setCell ⟨R, 1, none⟩ r1).setCell ⟨R, 2, none⟩ r2 = W ∧ Box W R #[.int .i64 y.owner, r1, r2] 26 ∧ GtOwn w.heap.size W r1 r2 y ∧ Far g w W ∧ Cur W base g := by
  obtain ⟨a, b, c, hr⟩ := h.bR
  have hl := h.lt
  have h1 := h.hR
  have hb : Below w.heap.size z (((z.setCell ⟨R, 0, none⟩ (.int .i64 y.owner)).setCell ⟨R, 1, none⟩ r1).setCell ⟨R, 2, none⟩ r2) := (((Below.refl _ _).setCell (p := ⟨R, 0, none⟩) h1 _).setCell (p := ⟨R, 1, none⟩) h1 _).setCell (p := ⟨R, 2, none⟩) h1 _
  have hG1 := hr.set 0 (.int .i64 y.owner)
  rw [set_first] at hG1
  have hG2 := hG1.set 1 r1
  rw [set_second] at hG2
  have hG3 := hG2.set 2 r2
  rw [set_thd] at hG3
  exact ⟨_, rfl, hG3, (((h.own.boxG (i := 0) hr (by decide) _).boxG (i := 1) hG1 (by decide) _).boxG (i := 2) hG2 (by decide) _).lo (by omega), Below.far' h.far (Nat.le_refl _) hb, h.cur.below (hb.mono hl)⟩
def DgR (w : World) (base g G : Nat) (iv : Value) (wr : World) : Prop := ∃ (i : Nat) (r1 r2 : Value) (y : Gt), iv = .int .i64 i ∧ i ≤ 12 ∧ Hid (Ok2 y) ∧ Hid (DgZ w base g w.heap.size G r1 r2 y wr)

set_option maxRecDepth 100000 in
set_option maxHeartbeats 8000000 in
theorem l12Gate_any (w : World) (base g : Nat) (C : Cur w base g) :
    Calls Try.prog 25 #[.pointer (some ⟨g, 0, none⟩)] w fun e w' => ∃ r1 r2 x, e = .returned (.agg #[.int .i64 x.owner, r1, r2]) ∧ GtOwn w.heap.size w' r1 r2 x ∧ Ok2 x ∧ Far g w w' ∧ Cur w' base g := by
  obtain ⟨W1, hW⟩ : ∃ W1, w.alloc (.cells #[.int .i64 0, .slice none 0 0, .slice none 0 0] 26) = W1 := ⟨_, rfl⟩
  have hb1 : Below w.heap.size w W1 := by rw [← hW]; go_grown
  have B1 := hide hb1
  have F1 : Hid (Far g w W1) := Far.ofBelow hb1
  have C1 : Hid (Cur W1 base g) := C.below (hb1.mono C.lt)
  have BR : Hid (Box W1 w.heap.size #[.int .i64 0, .slice none 0 0, .slice none 0 0] 26) := by rw [← hW]; exact hide (Box.made _ _ _)
  have HS1 : Hid (W1.heap.size = w.heap.size + 1) := by rw [← hW]; show _ = _; simp
  have hlt := C.lt
  have HW := hide hW
  clear hW C hb1
  go_enter Try.func25, Try.ntmps25
  go_wp2_with fail
  rw [HW.out]
  refine (specGateNew_any 2 W1).mono ?_
  rintro e z1 ⟨r1, r2, rfl, ho1, hb1⟩
  obtain ⟨p1, k1, rfl⟩ := form_own ho1.o1
  obtain ⟨p2, k2, rfl⟩ := form_own ho1.o2
  have hba : Below z1.heap.size z1 (z1.alloc (.cells #[.int .i64 (gateNewE 2).owner, .slice p1 (gateNewE 2).waits.length k1, .slice p2 (gateNewE 2).queues.length k2] 26)) := (Below.refl _ _).alloc (Nat.le_refl _) _
  have Z0 : Hid (DgZ w base g w.heap.size z1.heap.size (.slice p1 (gateNewE 2).waits.length k1) (.slice p2 (gateNewE 2).queues.length k2) (gateNewE 2) (z1.alloc (.cells #[.int .i64 (gateNewE 2).owner, .slice p1 (gateNewE 2).waits.length k1, .slice p2 (gateNewE 2).queues.length k2] 26))) := by
    have h1 := HS1.out
    have h2 := hb1.size
    exact ⟨⟨_, _, _, (BR.out.stays hb1).stays hba⟩, Box.made _ _ _, (ho1.lo (by omega)).stays hba, Below.far' F1.out (by omega) (hb1.trans (hba.mono h2)), (C1.out.below (hb1.mono (by omega))).below (hba.mono (by omega)), hlt, Nat.le_refl _, by omega⟩
  clear ho1 hb1 hba
  obtain ⟨Z, hZ⟩ : ∃ Z, z1.alloc (.cells #[.int .i64 (gateNewE 2).owner, .slice p1 (gateNewE 2).waits.length k1, .slice p2 (gateNewE 2).queues.length k2] 26) = Z := ⟨_, rfl⟩
  have HZ := hide hZ
  rw [hZ] at Z0
  clear hZ
  obtain ⟨G, eG⟩ : ∃ G, z1.heap.size = G := ⟨_, rfl⟩
  have EG := hide eG
  rw [eG] at Z0
  clear eG
  go_wp2
  rw [HZ.out, EG.out]
  go_loopw [4] (fun iv wr => DgR w base g G iv wr) (fun iv _ => 12 - (intOf iv).toNat)
  case atStart => exact ⟨0, _, _, gateNewE 2, rfl, by omega, Ok2.new, Z0.out⟩
  case round =>
    clear Z0 HZ EG HW BR HS1 C1 F1 B1
    obtain ⟨i, r1, r2, y, rfl, hi, O, Z⟩ := hrel
    obtain ⟨p1, k1, rfl⟩ := form_own Z.out.own.o1
    obtain ⟨p2, k2, rfl⟩ := form_own Z.out.own.o2
    have HBL := hide (below_any wr base g 12 (by omega) Z.out.cur)
    go_wp2_with fail
    refine HBL.out.mono ?_
    rintro e w1 ⟨q, hq, rfl, hf, hc⟩
    have Z1 := hide (Z.out.draws hf hc)
    clear hf hc HBL Z
    by_cases hlt2 : (i : Int) < (q : Int)
    case neg =>
      have t0 := Lib.cell_of_heap Z1.out.bO 0
      have t1 := Lib.cell_of_heap Z1.out.bO 1
      have t2 := Lib.cell_of_heap Z1.out.bO 2
      obtain ⟨ra, rb, rc, hrr⟩ := Z1.out.bR
      have tr0 := Lib.cell_of_heap hrr 0
      have tr1 := Lib.cell_of_heap hrr 1
      have tr2 := Lib.cell_of_heap hrr 2
      have fr0 := Lib.frozen_of_heap hrr 0
      have fr1 := Lib.frozen_of_heap hrr 1
      have fr2 := Lib.frozen_of_heap hrr 2
      simp at tr0 tr1 tr2 t0 t1 t2
      clear hrr
      obtain ⟨W, eW, hB, hO, hF, hC⟩ := Z1.out.fin
      have HR := hide (And.intro hB (And.intro hO (And.intro hF hC)))
      have EW := hide eW
      clear hB hO hF hC eW
      go_wp2
      rw [EW.out]
      refine box_ret (g := w.heap.size) (t := 26) (cs := #[.int .i64 y.owner, .slice p1 y.waits.length k1, .slice p2 y.queues.length k2]) rfl rfl ?_ _ Try.underlying26 rfl (by kernel_rfl) rfl ?_
      · exact HR.out.1
      · exact ⟨_, _, _, rfl, HR.out.2.1, O.out, HR.out.2.2.1, HR.out.2.2.2⟩
    case pos =>
      have hi12 : i < 12 := by omega
      have HBL := hide (below_any w1 base g 6 (by omega) Z1.out.cur)
      go_wp2_with fail
      refine HBL.out.mono ?_
      rintro e w2 ⟨k, hk, rfl, hf, hc⟩
      have Z2 := hide (Z1.out.draws hf hc)
      clear hf hc HBL Z1
      have hk6 : k < 6 := by omega
      clear hk
      have t0 := Lib.cell_of_heap Z2.out.bO 0
      have t1 := Lib.cell_of_heap Z2.out.bO 1
      have t2 := Lib.cell_of_heap Z2.out.bO 2
      simp at t0 t1 t2
      have HG2 := hide fun W h => Z2.out.stays (z' := W) h
      have HL := hide O.out.len
      by_cases e3 : k = 3
      · subst e3
        have PL := hide (specLeave_any (.slice p1 y.waits.length k1) (.slice p2 y.queues.length k2) y w2 Z2.out.own.at HL.out)
        go_wp2_with fail
        refine PL.out.mono ?_
        rintro e w4 ⟨q1, q2, rfl, ho, hb⟩
        obtain ⟨o1, c1, rfl⟩ := form_own ho.o1
        obtain ⟨o2, c2, rfl⟩ := form_own ho.o2
        have Z5 := hide (Z2.out.put hb ho)
        have Z4 := hide (Z2.out.stays hb)
        clear ho hb
        have k0 := (Lib.cell_of_heap Z4.out.bO 0).trans rfl
        have k1_ := (Lib.cell_of_heap Z4.out.bO 1).trans rfl
        have k2_ := (Lib.cell_of_heap Z4.out.bO 2).trans rfl
        have f0 := Lib.frozen_of_heap Z4.out.bO 0
        have f1 := Lib.frozen_of_heap Z4.out.bO 1
        have f2 := Lib.frozen_of_heap Z4.out.bO 2
        go_wp2
        go_roundw
        case rel => exact ⟨i + 1, _, _, _, by go_num, by omega, O.out.leave, Z5.out⟩
        case measure => simp [intOf]; omega
      by_cases e4 : k = 4
      · subst e4
        have PB : Hid (∀ W, Below w2.heap.size w2 W → Calls Try.prog 28 #[.pointer (some ⟨g, 0, none⟩), .int .i64 2] W fun e w' => ∃ (x : Nat), (x < 2 ∨ 2 = 0 ∧ x = 0) ∧ e = .returned (.int .i64 x) ∧ Far g W w' ∧ Cur w' base g) := fun W h => below_any W base g 2 (by omega) (HG2.out W h).cur
        go_wp2_with fail
        go_region_law (first
          | (refine step_callG rfl 28 #[.pointer (some ⟨g, 0, none⟩), .int .i64 2] ?_ (PB.out _ ?_) ?_; (kernel_rfl); (exact (Below.refl _ _).drew); rintro e w3 ⟨u, hu, rfl, hf, hc⟩; refine ⟨_, rfl, ?_⟩; have Z3 := hide ((HG2.out _ (Below.refl _ _).drew).draws hf hc); clear hf hc hu; have s0 := Lib.cell_of_heap Z3.out.bO 0; have s1 := Lib.cell_of_heap Z3.out.bO 1; have s2 := Lib.cell_of_heap Z3.out.bO 2; simp at s0 s1 s2; have PA := hide (specDelayIn_any (.slice p1 y.waits.length k1) (.slice p2 y.queues.length k2) y (u : Int) w3 Z3.out.own.at HL.out))
          | (refine step_callG rfl 20 #[.agg #[.int .i64 y.owner, .slice p1 y.waits.length k1, .slice p2 y.queues.length k2], .int .i64 (u : Int)] ?_ PA.out ?_; (kernel_rfl); rintro e w4 ⟨q1, q2, rfl, ho, hb⟩; refine ⟨_, rfl, ?_⟩; obtain ⟨o1, c1, rfl⟩ := form_own ho.o1; obtain ⟨o2, c2, rfl⟩ := form_own ho.o2; have Z5 := hide (Z3.out.put hb ho); have Z4 := hide (Z3.out.stays hb); clear ho hb; have k0 := (Lib.cell_of_heap Z4.out.bO 0).trans rfl; have k1_ := (Lib.cell_of_heap Z4.out.bO 1).trans rfl; have k2_ := (Lib.cell_of_heap Z4.out.bO 2).trans rfl; have f0 := Lib.frozen_of_heap Z4.out.bO 0; have f1 := Lib.frozen_of_heap Z4.out.bO 1; have f2 := Lib.frozen_of_heap Z4.out.bO 2))
        all_goals go_wp2
        all_goals go_roundw
        all_goals first | (exact ⟨i + 1, _, _, _, by go_num, by omega, O.out.delay (u : Int), Z5.out⟩) | (simp [intOf]; omega)
      by_cases e5 : k = 5
      · subst e5
        have PB : Hid (∀ W, Below w2.heap.size w2 W → Calls Try.prog 28 #[.pointer (some ⟨g, 0, none⟩), .int .i64 2] W fun e w' => ∃ (x : Nat), (x < 2 ∨ 2 = 0 ∧ x = 0) ∧ e = .returned (.int .i64 x) ∧ Far g W w' ∧ Cur w' base g) := fun W h => below_any W base g 2 (by omega) (HG2.out W h).cur
        go_wp2_with fail
        go_region_law (first
          | (refine step_callG rfl 28 #[.pointer (some ⟨g, 0, none⟩), .int .i64 2] ?_ (PB.out _ ?_) ?_; (kernel_rfl); (exact (Below.refl _ _).drew); rintro e w3 ⟨u, hu, rfl, hf, hc⟩; refine ⟨_, rfl, ?_⟩; have Z3 := hide ((HG2.out _ (Below.refl _ _).drew).draws hf hc); clear hf hc hu; have s0 := Lib.cell_of_heap Z3.out.bO 0; have s1 := Lib.cell_of_heap Z3.out.bO 1; have s2 := Lib.cell_of_heap Z3.out.bO 2; simp at s0 s1 s2; have PA := hide (specContinueAt_any (.slice p1 y.waits.length k1) (.slice p2 y.queues.length k2) y (u : Int) w3 Z3.out.own.at HL.out))
          | (refine step_callG rfl 21 #[.agg #[.int .i64 y.owner, .slice p1 y.waits.length k1, .slice p2 y.queues.length k2], .int .i64 (u : Int)] ?_ PA.out ?_; (kernel_rfl); rintro e w4 ⟨q1, q2, rfl, ho, hb⟩; refine ⟨_, rfl, ?_⟩; obtain ⟨o1, c1, rfl⟩ := form_own ho.o1; obtain ⟨o2, c2, rfl⟩ := form_own ho.o2; have Z5 := hide (Z3.out.put hb ho); have Z4 := hide (Z3.out.stays hb); clear ho hb; have k0 := (Lib.cell_of_heap Z4.out.bO 0).trans rfl; have k1_ := (Lib.cell_of_heap Z4.out.bO 1).trans rfl; have k2_ := (Lib.cell_of_heap Z4.out.bO 2).trans rfl; have f0 := Lib.frozen_of_heap Z4.out.bO 0; have f1 := Lib.frozen_of_heap Z4.out.bO 1; have f2 := Lib.frozen_of_heap Z4.out.bO 2))
        all_goals go_wp2
        all_goals go_roundw
        all_goals first | (exact ⟨i + 1, _, _, _, by go_num, by omega, O.out.cont (u : Int), Z5.out⟩) | (simp [intOf]; omega)
      have hk3 : k = 0 ∨ k = 1 ∨ k = 2 := by omega
      clear e3 e4 e5 hk6
      rcases hk3 with rfl | rfl | rfl
      · have PB : Hid (∀ W, Below w2.heap.size w2 W → Calls Try.prog 28 #[.pointer (some ⟨g, 0, none⟩), .int .i64 4] W fun e w' => ∃ (x : Nat), (x < 4 ∨ 4 = 0 ∧ x = 0) ∧ e = .returned (.int .i64 x) ∧ Far g W w' ∧ Cur w' base g) := fun W h => below_any W base g 4 (by omega) (HG2.out W h).cur
        go_wp2_with fail
        go_region_law (first
          | (refine step_callG rfl 28 #[.pointer (some ⟨g, 0, none⟩), .int .i64 4] ?_ (PB.out _ ?_) ?_; (kernel_rfl); (exact (Below.refl _ _).drew); rintro e w3 ⟨u, hu, rfl, hf, hc⟩; refine ⟨_, rfl, ?_⟩; have Z3 := hide ((HG2.out _ (Below.refl _ _).drew).draws hf hc); clear hf hc hu; have s0 := Lib.cell_of_heap Z3.out.bO 0; have s1 := Lib.cell_of_heap Z3.out.bO 1; have s2 := Lib.cell_of_heap Z3.out.bO 2; simp at s0 s1 s2; have PA := hide (specArrive_any (.slice p1 y.waits.length k1) (.slice p2 y.queues.length k2) y (u : Int) w3 Z3.out.own.at HL.out))
          | (refine step_callG rfl 18 #[.agg #[.int .i64 y.owner, .slice p1 y.waits.length k1, .slice p2 y.queues.length k2], .int .i64 (u : Int)] ?_ PA.out ?_; (kernel_rfl); rintro e w4 ⟨q1, q2, rfl, ho, hb⟩; refine ⟨_, rfl, ?_⟩; obtain ⟨o1, c1, rfl⟩ := form_own ho.o1; obtain ⟨o2, c2, rfl⟩ := form_own ho.o2; have Z5 := hide (Z3.out.put hb ho); have Z4 := hide (Z3.out.stays hb); clear ho hb; have k0 := (Lib.cell_of_heap Z4.out.bO 0).trans rfl; have k1_ := (Lib.cell_of_heap Z4.out.bO 1).trans rfl; have k2_ := (Lib.cell_of_heap Z4.out.bO 2).trans rfl; have f0 := Lib.frozen_of_heap Z4.out.bO 0; have f1 := Lib.frozen_of_heap Z4.out.bO 1; have f2 := Lib.frozen_of_heap Z4.out.bO 2))
        all_goals go_wp2
        all_goals go_roundw
        all_goals first | (exact ⟨i + 1, _, _, _, by go_num, by omega, O.out.arrive (u : Int), Z5.out⟩) | (simp [intOf]; omega)
      · have PB : Hid (∀ W, Below w2.heap.size w2 W → Calls Try.prog 28 #[.pointer (some ⟨g, 0, none⟩), .int .i64 4] W fun e w' => ∃ (x : Nat), (x < 4 ∨ 4 = 0 ∧ x = 0) ∧ e = .returned (.int .i64 x) ∧ Far g W w' ∧ Cur w' base g) := fun W h => below_any W base g 4 (by omega) (HG2.out W h).cur
        go_wp2_with fail
        go_region_law (first
          | (refine step_callG rfl 28 #[.pointer (some ⟨g, 0, none⟩), .int .i64 4] ?_ (PB.out _ ?_) ?_; (kernel_rfl); (exact (Below.refl _ _).drew); rintro e w3 ⟨u, hu, rfl, hf, hc⟩; refine ⟨_, rfl, ?_⟩; have Z3 := hide ((HG2.out _ (Below.refl _ _).drew).draws hf hc); clear hf hc hu; have s0 := Lib.cell_of_heap Z3.out.bO 0; have s1 := Lib.cell_of_heap Z3.out.bO 1; have s2 := Lib.cell_of_heap Z3.out.bO 2; simp at s0 s1 s2; have PA := hide (specArrive_any (.slice p1 y.waits.length k1) (.slice p2 y.queues.length k2) y (u : Int) w3 Z3.out.own.at HL.out))
          | (refine step_callG rfl 18 #[.agg #[.int .i64 y.owner, .slice p1 y.waits.length k1, .slice p2 y.queues.length k2], .int .i64 (u : Int)] ?_ PA.out ?_; (kernel_rfl); rintro e w4 ⟨q1, q2, rfl, ho, hb⟩; refine ⟨_, rfl, ?_⟩; obtain ⟨o1, c1, rfl⟩ := form_own ho.o1; obtain ⟨o2, c2, rfl⟩ := form_own ho.o2; have Z5 := hide (Z3.out.put hb ho); have Z4 := hide (Z3.out.stays hb); clear ho hb; have k0 := (Lib.cell_of_heap Z4.out.bO 0).trans rfl; have k1_ := (Lib.cell_of_heap Z4.out.bO 1).trans rfl; have k2_ := (Lib.cell_of_heap Z4.out.bO 2).trans rfl; have f0 := Lib.frozen_of_heap Z4.out.bO 0; have f1 := Lib.frozen_of_heap Z4.out.bO 1; have f2 := Lib.frozen_of_heap Z4.out.bO 2))
        all_goals go_wp2
        all_goals go_roundw
        all_goals first | (exact ⟨i + 1, _, _, _, by go_num, by omega, O.out.arrive (u : Int), Z5.out⟩) | (simp [intOf]; omega)
      · have PB : Hid (∀ W, Below w2.heap.size w2 W → Calls Try.prog 28 #[.pointer (some ⟨g, 0, none⟩), .int .i64 4] W fun e w' => ∃ (x : Nat), (x < 4 ∨ 4 = 0 ∧ x = 0) ∧ e = .returned (.int .i64 x) ∧ Far g W w' ∧ Cur w' base g) := fun W h => below_any W base g 4 (by omega) (HG2.out W h).cur
        go_wp2_with fail
        go_region_law (first
          | (refine step_callG rfl 28 #[.pointer (some ⟨g, 0, none⟩), .int .i64 4] ?_ (PB.out _ ?_) ?_; (kernel_rfl); (exact (Below.refl _ _).drew); rintro e w3 ⟨u, hu, rfl, hf, hc⟩; refine ⟨_, rfl, ?_⟩; have Z3 := hide ((HG2.out _ (Below.refl _ _).drew).draws hf hc); clear hf hc hu; have s0 := Lib.cell_of_heap Z3.out.bO 0; have s1 := Lib.cell_of_heap Z3.out.bO 1; have s2 := Lib.cell_of_heap Z3.out.bO 2; simp at s0 s1 s2; have PA := hide (specArrive_any (.slice p1 y.waits.length k1) (.slice p2 y.queues.length k2) y (u : Int) w3 Z3.out.own.at HL.out))
          | (refine step_callG rfl 18 #[.agg #[.int .i64 y.owner, .slice p1 y.waits.length k1, .slice p2 y.queues.length k2], .int .i64 (u : Int)] ?_ PA.out ?_; (kernel_rfl); rintro e w4 ⟨q1, q2, rfl, ho, hb⟩; refine ⟨_, rfl, ?_⟩; obtain ⟨o1, c1, rfl⟩ := form_own ho.o1; obtain ⟨o2, c2, rfl⟩ := form_own ho.o2; have Z5 := hide (Z3.out.put hb ho); have Z4 := hide (Z3.out.stays hb); clear ho hb; have k0 := (Lib.cell_of_heap Z4.out.bO 0).trans rfl; have k1_ := (Lib.cell_of_heap Z4.out.bO 1).trans rfl; have k2_ := (Lib.cell_of_heap Z4.out.bO 2).trans rfl; have f0 := Lib.frozen_of_heap Z4.out.bO 0; have f1 := Lib.frozen_of_heap Z4.out.bO 1; have f2 := Lib.frozen_of_heap Z4.out.bO 2))
        all_goals go_wp2
        all_goals go_roundw
        all_goals first | (exact ⟨i + 1, _, _, _, by go_num, by omega, O.out.arrive (u : Int), Z5.out⟩) | (simp [intOf]; omega)
end Go.Proofs.Ytbikdpljhnhcaaa

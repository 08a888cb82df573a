/-
  Walks: any gate drawn, right or not; what the laws of gates draw.
-/
import Derived.Test.YtbikdpljhnhcaaaDrwH
import Derived.Test.YtbikdpljhnhcaaaPickW
import Derived.Test.YtbikdpljhnhcaaaBoxR
namespace Go.Proofs.Ytbikdpljhnhcaaa
open Go.RowKit

theorem onceG_any (w : World) (base g n : Nat) (hn : n ≤ 4294967296) (C : Cur w base g) :
    Calls Try.prog 50 #[.pointer (some ⟨g, 0, none⟩), .int .i64 n] w fun e w' => ∃ b : Bool, e = .returned (.bool b) ∧ Far g w w' ∧ Cur w' base g := by
  have B := hide (below_any w base g n hn C)
  clear C
  go_enter Try.func50, Try.ntmps50
  go_wp2_with (go_at_call 28; refine (unhide B).mono ?_; rintro e w1 ⟨x, _, rfl, hf, hc⟩)
  go_ret
  exact ⟨_, rfl, hf, hc⟩
/-- A place is drawn: any number. -/
theorem placeG_any (w : World) (base g : Nat) (C : Cur w base g) :
    Calls Try.prog 38 #[.pointer (some ⟨g, 0, none⟩), .int .i64 3] w fun e w' => ∃ x : Int, e = .returned (.int .i64 x) ∧ Far g w w' ∧ Cur w' base g := by
  have B := hide (onceG_any w base g 15 (by omega) C)
  clear C
  go_enter Try.func38, Try.ntmps38
  go_wp2_with (go_at_call 50; refine (unhide B).mono ?_; clear B; rintro e w1 ⟨b, rfl, hf, hc⟩; cases b)
  · go_wp2_with (go_at_call 28; refine (below_any _ base g 3 (by omega) hc).mono ?_; rintro e w2 ⟨y, _, rfl, hf2, hc2⟩)
    go_ret
    exact ⟨y, rfl, hf.trans hf2, hc2⟩
  · have P := hide (fun w0 => pickInt_made w1 w0 base g [-1, 3, 4, 9223372036854775807, -9223372036854775808] 3 (by decide) (by decide) hc)
    go_wp2_with (go_at_call 51; refine (unhide P _ rfl).mono ?_; rintro e w2 ⟨y, _, rfl, hf2, hc2⟩)
    go_ret
    exact ⟨y, rfl, hf.trans hf2, hc2⟩

/-- Another owner. -/
theorem DgZ.owner {w : World} {base g R G : Nat} {r1 r2 : Value} {y : Gt} {z : World} (h : DgZ w base g R G r1 r2 y z) (p : Int) : DgZ w base g R G r1 r2 { y with owner := p } (z.setCell ⟨G, 0, none⟩ (.int .i64 p)) := by
  have h1 := h.hR
  have h2 := h.hG
  have h3 := h.lt
  obtain ⟨a, b, c, hr⟩ := h.bR
  have hbel : Below (R + 1) z (z.setCell ⟨G, 0, none⟩ (.int .i64 p)) := (Below.refl _ _).setCell (p := ⟨G, 0, none⟩) (show R + 1 ≤ G by omega) _
  have h0 := h.own.boxG (i := 0) h.bO (by decide) (.int .i64 p)
  refine ⟨⟨a, b, c, hr.other _ _ (by show R ≠ G; omega)⟩, ?_, ⟨h0.o1, h0.o2, h0.ap⟩, Below.far' h.far (by omega) hbel, h.cur.below (hbel.mono (by omega)), h3, h1, h2⟩
  have := h.bO.set 0 (.int .i64 p)
  rw [set_first] at this
  exact this
/-- One more that waits. -/
theorem DgZ.wait {w : World} {base g R G : Nat} {r1 r2 : Value} {y : Gt} {W w' : World} {p : Int} {v' : Value} (h : DgZ w base g R G r1 r2 y W) (hm : MoreR (R + 1) 3 W r1 (y.waits.map I64) (.int .i64 p) v' w') :
    DgZ w base g R G v' r2 { y with waits := y.waits ++ [p] } (w'.setCell ⟨G, 1, none⟩ v') := by
  have ho : W.ownsRow (R + 1) 3 1 r1 (y.waits.map I64).length (y.waits.map I64) := by rw [List.length_map]; exact h.own.o1
  have hG := box_more hm ho h.bO (by decide)
  have h1 := h.hR
  have h2 := h.hG
  have h3 := h.lt
  have e1 : GtOwn (R + 1) w' v' r2 { y with waits := y.waits ++ [p] } := by
    refine ⟨?_, owns_eq h.own.o2 fun g hg => hm.oth g (fun e => h.own.ap g e hg) (h.own.o2.lt g hg).2, fun i hi hi1 => ?_⟩
    · have := hm.own
      rw [List.length_map] at this
      show World.ownsRow _ _ _ _ _ (y.waits ++ [p]).length ((y.waits ++ [p]).map I64)
      rw [List.length_append, List.map_append]
      exact this
    · rcases hm.pos with e | e
      · exact h.own.ap i (by rw [← e]; exact hi) hi1
      · rw [hi] at e
        injection e with e
        have := (h.own.o2.lt i hi1).2
        omega
  obtain ⟨a, b, c, hr⟩ := h.bR
  have h0 := e1.boxG (i := 1) hG (by decide) v'
  have hbel : Below (R + 1) W (w'.setCell ⟨G, 1, none⟩ v') := hm.bel.setCell (p := ⟨G, 1, none⟩) (show R + 1 ≤ G by omega) _
  refine ⟨⟨a, b, c, (box_more hm ho hr (by decide)).other _ _ (by show R ≠ G; omega)⟩, ?_, h0, Below.far' h.far (by omega) hbel, h.cur.below (hbel.mono (by omega)), h3, h1, h2⟩
  have := hG.set 1 v'
  rw [set_second] at this
  exact this
/-- One queue more. -/
theorem DgZ.que {w : World} {base g R G : Nat} {r1 r2 : Value} {y : Gt} {W w' : World} {p : Int} {v' : Value} (h : DgZ w base g R G r1 r2 y W) (hm : MoreR (R + 1) 3 W r2 (y.queues.map I64) (.int .i64 p) v' w') :
    DgZ w base g R G r1 v' { y with queues := y.queues ++ [p] } (w'.setCell ⟨G, 2, none⟩ v') := by
  have ho : W.ownsRow (R + 1) 3 1 r2 (y.queues.map I64).length (y.queues.map I64) := by rw [List.length_map]; exact h.own.o2
  have hG := box_more hm ho h.bO (by decide)
  have h1 := h.hR
  have h2 := h.hG
  have h3 := h.lt
  have e1 : GtOwn (R + 1) w' r1 v' { y with queues := y.queues ++ [p] } := by
    refine ⟨owns_eq h.own.o1 fun g hg => hm.oth g (h.own.ap g hg) (h.own.o1.lt g hg).2, ?_, fun i hi hi1 => ?_⟩
    · have := hm.own
      rw [List.length_map] at this
      show World.ownsRow _ _ _ _ _ (y.queues ++ [p]).length ((y.queues ++ [p]).map I64)
      rw [List.length_append, List.map_append]
      exact this
    · rcases hm.pos with e | e
      · exact h.own.ap i hi (by rw [← e]; exact hi1)
      · rw [hi1] at e
        injection e with e
        have := (h.own.o1.lt i hi).2
        omega
  obtain ⟨a, b, c, hr⟩ := h.bR
  have h0 := e1.boxG (i := 2) hG (by decide) v'
  have hbel : Below (R + 1) W (w'.setCell ⟨G, 2, none⟩ v') := hm.bel.setCell (p := ⟨G, 2, none⟩) (show R + 1 ≤ G by omega) _
  refine ⟨⟨a, b, c, (box_more hm ho hr (by decide)).other _ _ (by show R ≠ G; omega)⟩, ?_, h0, Below.far' h.far (by omega) hbel, h.cur.below (hbel.mono (by omega)), h3, h1, h2⟩
  have := hG.set 2 v'
  rw [set_thd] at this
  exact this
/-- One of the queues. -/
theorem DgZ.queue {w : World} {base g R G q c i : Nat} {r1 : Value} {y : Gt} {z : World} (h : DgZ w base g R G r1 (.slice (some ⟨q, 0, none⟩) y.queues.length c) y z) (p : Int) :
    DgZ w base g R G r1 (.slice (some ⟨q, 0, none⟩) y.queues.length c) { y with queues := y.queues.set i p } (z.setCell ⟨q, i, none⟩ (.int .i64 p)) := by
  have h1 := h.hR
  have h2 := h.hG
  have h3 := h.lt
  have hq := (h.own.o2.lt q rfl).1
  have hGq : G ≠ q := fun e => Lib.ownBlock_ne h.own.o2 h.bO (by decide) (by rw [e]; rfl)
  have hbel : Below (R + 1) z (z.setCell ⟨q, i, none⟩ (.int .i64 p)) := (Below.refl _ _).setCell (p := ⟨q, i, none⟩) (show R + 1 ≤ q by omega) _
  obtain ⟨a, b, d, hr⟩ := h.bR
  refine ⟨⟨a, b, d, hr.other _ _ (by show R ≠ q; omega)⟩, h.bO.other _ _ (by show G ≠ q; exact hGq), ⟨?_, ?_, h.own.ap⟩, Below.far' h.far (by omega) hbel, h.cur.below (hbel.mono (by omega)), h3, h1, h2⟩
  · exact owns_eq h.own.o1 fun k hk => Below.heap_setCell _ ⟨q, i, none⟩ _ k (fun e => h.own.ap k hk (by show some q = some k; rw [show k = q from e]))
  · have h9 := (h.own.o2.stored i (.int .i64 p)).1
    show World.ownsRow _ _ _ _ _ (y.queues.set i p).length ((y.queues.set i p).map I64)
    rw [List.length_set, List.map_set]
    exact h9
/-- Small gates. -/
structure SmG (x : Gt) : Prop where
  w : x.waits.length ≤ 5
  q : x.queues.length ≤ 3
theorem Ok2.sm {x : Gt} (h : Ok2 x) : SmG x := ⟨by have := gateOk_small h.ok; omega, by rw [h.two]; omega⟩
theorem SmG.len {x : Gt} (h : SmG x) : GtLen x := ⟨Nat.le_trans h.w (by decide), Nat.le_trans h.q (by decide)⟩

set_option maxRecDepth 100000 in
set_option maxHeartbeats 8000000 in
theorem l12Any_any (w : World) (base g : Nat) (C : Cur w base g) :
    Calls Try.prog 39 #[.pointer (some ⟨g, 0, none⟩)] w fun e w' => ∃ r1 r2 x, e = .returned (.agg #[.int .i64 x.owner, r1, r2]) ∧ GtOwn w.heap.size w' r1 r2 x ∧ SmG x ∧ Far g w w' ∧ Cur w' base g := by
  obtain ⟨W1, hW⟩ : ∃ W1, w.alloc (.cells #[.int .i64 0, .slice none 0 0, .slice none 0 0] 26) = W1 := ⟨_, rfl⟩
  have hb1 : Below w.heap.size w W1 := by rw [← hW]; go_grown
  have F1 : Hid (Far g w W1) := Far.ofBelow hb1
  have C1 : Hid (Cur W1 base g) := C.below (hb1.mono C.lt)
  have BR : Hid (Box W1 w.heap.size #[.int .i64 0, .slice none 0 0, .slice none 0 0] 26) := by rw [← hW]; exact hide (Box.made _ _ _)
  have HS1 : Hid (W1.heap.size = w.heap.size + 1) := by rw [← hW]; show _ = _; simp
  have hlt := C.lt
  have HW := hide hW
  clear hW C hb1
  go_enter Try.func39, Try.ntmps39
  go_wp2_with fail
  rw [HW.out]
  refine (below_any _ base g 12 (by omega) C1.out).mono ?_
  rintro e z1 ⟨k, hk, rfl, hf1, hc1⟩
  have HF1 := hide hf1
  have HC1 := hide hc1
  clear hf1 hc1
  go_wp2_with fail
  refine (below_any _ base g 60 (by omega) HC1.out).mono ?_
  rintro e z2 ⟨u, hu, rfl, hf2, hc2⟩
  have HF2 := hide hf2
  have HC2 := hide hc2
  clear hf2 hc2
  go_wp2_with fail
  refine (l12Gate_any z2 base g HC2.out).mono ?_
  rintro e z3 ⟨r1, r2, x, rfl, ho3, hx3, hf3, hc3⟩
  have HO3 := hide ho3
  have HX := hide hx3
  have HF3 := hide hf3
  have HC3 := hide hc3
  clear ho3 hx3 hf3 hc3
  go_wp2_with fail
  refine (copyGt_any r1 r2 x z3 HO3.out.at HX.out.len).mono ?_
  rintro e z4 ⟨s1, s2, rfl, ho4, hb4⟩
  obtain ⟨p1, k1, rfl⟩ := form_own ho4.o1
  obtain ⟨p2, k2, rfl⟩ := form_own ho4.o2
  have hba : Below z4.heap.size z4 (z4.alloc (.cells #[.int .i64 x.owner, .slice p1 x.waits.length k1, .slice p2 x.queues.length k2] 26)) := (Below.refl _ _).alloc (Nat.le_refl _) _
  have Z0 : Hid (DgZ w base g w.heap.size z4.heap.size (.slice p1 x.waits.length k1) (.slice p2 x.queues.length k2) x (z4.alloc (.cells #[.int .i64 x.owner, .slice p1 x.waits.length k1, .slice p2 x.queues.length k2] 26))) := by
    have h1 := HS1.out
    have h2 := HF1.out.size
    have h3 := HF2.out.size
    have h4 := HF3.out.size
    have h5 := hb4.size
    exact ⟨⟨_, _, _, ((box_farG HF3.out (box_farG HF2.out (box_farG HF1.out BR.out (by omega)) (by omega)) (by omega)).stays hb4).stays hba⟩, Box.made _ _ _, (ho4.lo (by omega)).stays hba, Below.far' (B := z3.heap.size) (((F1.out.trans HF1.out).trans HF2.out).trans HF3.out) (by omega) (hb4.trans (hba.mono h5)), (HC3.out.below (hb4.mono (by omega))).below (hba.mono (by omega)), hlt, Nat.le_refl _, by omega⟩
  clear ho4 hb4 hba
  have hw4 := gateOk_small HX.out.ok
  have HQ2 := hide HX.out.two
  obtain ⟨p, rfl⟩ : ∃ q, p2 = some ⟨q, 0, none⟩ := by
    rcases Z0.out.own.o2.2 with ⟨e, h0⟩ | ⟨g, cap, cur, e, _⟩
    · have := HQ2.out; omega
    · injection e with e1 _ _
      exact ⟨g, e1⟩
  obtain ⟨Z, hZ⟩ : ∃ Z, z4.alloc (.cells #[.int .i64 x.owner, .slice p1 x.waits.length k1, .slice (some ⟨p, 0, none⟩) x.queues.length k2] 26) = Z := ⟨_, rfl⟩
  have HZ := hide hZ
  have ZA := hide Z0.out
  rw [hZ] at Z0
  clear hZ
  obtain ⟨G, eG⟩ : ∃ G, z4.heap.size = G := ⟨_, rfl⟩
  have EG := hide eG
  rw [eG] at Z0
  clear eG
  have hk' : k < 12 := by omega
  have hu' : u < 60 := by omega
  clear hk hu
  clear hlt HF1 HF2 HF3 HC1 HC2 HC3 F1 C1 BR HS1 HO3 ZA
  go_upto_region 4 with fail
  rw [HZ.out, EG.out]
  clear HZ EG
  by_cases e0 : k = 0
  · subst e0
    have hm : (0 : Int) ≤ (u : Int) % 7 ∧ (u : Int) % 7 < 7 := ⟨Int.emod_nonneg _ (by decide), Int.emod_lt_of_pos _ (by decide)⟩
    have hn : IntKind.i64.wrap ((u : Int) % 7 - 2) = (u : Int) % 7 - 2 := IntWalk.i64_in _ ⟨by omega, by omega⟩
    have a0 := (Lib.cell_of_heap Z0.out.bO 0).trans rfl
    have f0 := Lib.frozen_of_heap Z0.out.bO 0
    have a1 := (Lib.cell_of_heap Z0.out.bO 1).trans rfl
    have f1 := Lib.frozen_of_heap Z0.out.bO 1
    have a2 := (Lib.cell_of_heap Z0.out.bO 2).trans rfl
    have f2 := Lib.frozen_of_heap Z0.out.bO 2
    have Z3 := hide (Z0.out.owner ((u : Int) % 7 - 2))
    go_upto_region 13 with fail
    obtain ⟨W5, hW5⟩ : ∃ W5, Z.setCell ⟨G, 0, none⟩ (.int .i64 ((u : Int) % 7 - 2)) = W5 := ⟨_, rfl⟩
    rw [hW5] at Z3 ⊢
    clear hW5
    have a0 := (Lib.cell_of_heap Z3.out.bO 0).trans rfl
    have f0 := Lib.frozen_of_heap Z3.out.bO 0
    have a1 := (Lib.cell_of_heap Z3.out.bO 1).trans rfl
    have f1 := Lib.frozen_of_heap Z3.out.bO 1
    have a2 := (Lib.cell_of_heap Z3.out.bO 2).trans rfl
    have f2 := Lib.frozen_of_heap Z3.out.bO 2
    obtain ⟨ra, rb, rc, hrr⟩ := Z3.out.bR
    have b0 := (Lib.cell_of_heap hrr 0).trans rfl
    have c0 := Lib.frozen_of_heap hrr 0
    have b1 := (Lib.cell_of_heap hrr 1).trans rfl
    have c1 := Lib.frozen_of_heap hrr 1
    have b2 := (Lib.cell_of_heap hrr 2).trans rfl
    have c2 := Lib.frozen_of_heap hrr 2
    clear hrr
    obtain ⟨W, eW, hB, hO, hF, hC⟩ := Z3.out.fin
    have HR := hide (And.intro hB (And.intro hO (And.intro hF hC)))
    have EW := hide eW
    clear hB hO hF hC eW Z3
    go_wp2
    rw [EW.out]
    refine box_ret (g := w.heap.size) (t := 26) (cs := #[.int .i64 ((u : Int) % 7 - 2), .slice p1 x.waits.length k1, .slice (some ⟨p, 0, none⟩) x.queues.length k2]) rfl rfl ?_ _ Try.underlying26 rfl (by kernel_rfl) rfl ?_
    · exact HR.out.1
    · exact ⟨_, _, { x with owner := (u : Int) % 7 - 2 }, rfl, HR.out.2.1, ⟨HX.out.sm.w, HX.out.sm.q⟩, HR.out.2.2.1, HR.out.2.2.2⟩
  by_cases e1 : k = 1
  · subst e1
    have hm : (0 : Int) ≤ (u : Int) % 6 ∧ (u : Int) % 6 < 6 := ⟨Int.emod_nonneg _ (by decide), Int.emod_lt_of_pos _ (by decide)⟩
    have hn : IntKind.i64.wrap ((u : Int) % 6 - 1) = (u : Int) % 6 - 1 := IntWalk.i64_in _ ⟨by omega, by omega⟩
    have a0 := (Lib.cell_of_heap Z0.out.bO 0).trans rfl
    have f0 := Lib.frozen_of_heap Z0.out.bO 0
    have a1 := (Lib.cell_of_heap Z0.out.bO 1).trans rfl
    have f1 := Lib.frozen_of_heap Z0.out.bO 1
    have a2 := (Lib.cell_of_heap Z0.out.bO 2).trans rfl
    have f2 := Lib.frozen_of_heap Z0.out.bO 2
    have HV := hide (Z0.out.stays ((Below.refl _ _).alloc (Nat.le_refl _) (.cells #[.int .i64 ((u : Int) % 6 - 1)] 3)))
    have HUV : Hid ((Z.alloc (.cells #[.int .i64 ((u : Int) % 6 - 1)] 3)).cell? ⟨Z.heap.size, 0, none⟩ = some (.int .i64 ((u : Int) % 6 - 1))) := hide (Lib.cell_of_heap (Box.made _ _ _) 0)
    have HOV : Hid ((Z.alloc (.cells #[.int .i64 ((u : Int) % 6 - 1)] 3)).ownsRow (w.heap.size + 1) 3 1 (.slice p1 x.waits.length k1) (x.waits.map I64).length (x.waits.map I64)) := by rw [List.length_map]; exact hide HV.out.own.o1
    have HLE : Hid (w.heap.size + 1 ≤ (Z.alloc (.cells #[.int .i64 ((u : Int) % 6 - 1)] 3)).heap.size) := by have h1 := HV.out.bO.lt; have h2 := HV.out.hG; show _ ≤ _; omega
    go_upto_region 13 with (at_builtin; refine wpList_more rfl (.tmp 23) (.tmp 27) 24 rfl (w.heap.size + 1) 3 (.int .i64 0) 8 Try.underlying24 Try.infoInt rfl (.slice p1 x.waits.length k1) (x.waits.map I64) rfl HOV.out Z.heap.size (.int .i64 ((u : Int) % 6 - 1)) rfl HUV.out rfl ?_ ?_ HLE.out ?_; (rw [List.length_map]; unfold maxLen;  omega); (rw [List.length_map];  omega); intro v' w' hm; have sh := form_own hm.own; obtain ⟨po, co, e9⟩ := sh; subst e9; have HBX := hide (box_more hm HOV.out HV.out.bO (by decide)); have Z3 := hide (HV.out.wait hm); rw [List.length_map] at Z3; have m0 := (Lib.cell_of_heap HBX.out 1).trans rfl; have m1 := Lib.frozen_of_heap HBX.out 1; clear hm)
    obtain ⟨W5, hW5⟩ : ∃ W5, w'.setCell ⟨G, 1, none⟩ (.slice po (x.waits.length + 1) co) = W5 := ⟨_, rfl⟩
    rw [hW5] at Z3 ⊢
    clear hW5
    have a0 := (Lib.cell_of_heap Z3.out.bO 0).trans rfl
    have f0 := Lib.frozen_of_heap Z3.out.bO 0
    have a1 := (Lib.cell_of_heap Z3.out.bO 1).trans rfl
    have f1 := Lib.frozen_of_heap Z3.out.bO 1
    have a2 := (Lib.cell_of_heap Z3.out.bO 2).trans rfl
    have f2 := Lib.frozen_of_heap Z3.out.bO 2
    obtain ⟨ra, rb, rc, hrr⟩ := Z3.out.bR
    have b0 := (Lib.cell_of_heap hrr 0).trans rfl
    have c0 := Lib.frozen_of_heap hrr 0
    have b1 := (Lib.cell_of_heap hrr 1).trans rfl
    have c1 := Lib.frozen_of_heap hrr 1
    have b2 := (Lib.cell_of_heap hrr 2).trans rfl
    have c2 := Lib.frozen_of_heap hrr 2
    clear hrr
    obtain ⟨W, eW, hB, hO, hF, hC⟩ := Z3.out.fin
    have HR := hide (And.intro hB (And.intro hO (And.intro hF hC)))
    have EW := hide eW
    clear hB hO hF hC eW Z3
    go_wp2
    rw [EW.out]
    refine box_ret (g := w.heap.size) (t := 26) (cs := #[.int .i64 x.owner, .slice po (x.waits.length + 1) co, .slice (some ⟨p, 0, none⟩) x.queues.length k2]) rfl rfl ?_ _ Try.underlying26 rfl (by kernel_rfl) rfl ?_
    · exact HR.out.1
    · exact ⟨_, _, { x with waits := x.waits ++ [(u : Int) % 6 - 1] }, rfl, HR.out.2.1, ⟨by show (x.waits ++ [_]).length ≤ 5; rw [List.length_append]; simp; omega, HX.out.sm.q⟩, HR.out.2.2.1, HR.out.2.2.2⟩
  by_cases e2 : k = 2
  · subst e2
    have hm : (0 : Int) ≤ (u : Int) % 6 ∧ (u : Int) % 6 < 6 := ⟨Int.emod_nonneg _ (by decide), Int.emod_lt_of_pos _ (by decide)⟩
    have hm2 : (0 : Int) ≤ (u : Int) % 2 ∧ (u : Int) % 2 < 2 := ⟨Int.emod_nonneg _ (by decide), Int.emod_lt_of_pos _ (by decide)⟩
    have hn : IntKind.i64.wrap ((u : Int) % 6 - 2) = (u : Int) % 6 - 2 := IntWalk.i64_in _ ⟨by omega, by omega⟩
    have a0 := (Lib.cell_of_heap Z0.out.bO 0).trans rfl
    have f0 := Lib.frozen_of_heap Z0.out.bO 0
    have a1 := (Lib.cell_of_heap Z0.out.bO 1).trans rfl
    have f1 := Lib.frozen_of_heap Z0.out.bO 1
    have a2 := (Lib.cell_of_heap Z0.out.bO 2).trans rfl
    have f2 := Lib.frozen_of_heap Z0.out.bO 2
    obtain ⟨i, hi⟩ : ∃ i : Nat, (u : Int) % 2 = (i : Int) := ⟨u % 2, by omega⟩
    have hi2 : i < 2 := by omega
    have hq0 : (0 : Int) ≤ (i : Int) := by omega
    have hq1 : (i : Int) < (x.queues.length : Int) := by have := HQ2.out; omega
    have hiq : i < x.queues.length := by have := HQ2.out; omega
    have hqa : Z.cell? ⟨p, i, none⟩ = some (.int .i64 x.queues[i]) := by
      rw [Z0.out.own.o2.cellAt i (by omega), List.getElem?_map, List.getElem?_eq_getElem hiq]
      rfl
    have hqf := Z0.out.own.o2.frozenAt i
    have Z3 := hide (Z0.out.queue (i := i) ((u : Int) % 6 - 2))
    go_upto_region 13 with fail
    obtain ⟨W5, hW5⟩ : ∃ W5, Z.setCell ⟨p, i, none⟩ (.int .i64 ((u : Int) % 6 - 2)) = W5 := ⟨_, rfl⟩
    rw [hW5] at Z3 ⊢
    clear hW5
    have a0 := (Lib.cell_of_heap Z3.out.bO 0).trans rfl
    have f0 := Lib.frozen_of_heap Z3.out.bO 0
    have a1 := (Lib.cell_of_heap Z3.out.bO 1).trans rfl
    have f1 := Lib.frozen_of_heap Z3.out.bO 1
    have a2 := (Lib.cell_of_heap Z3.out.bO 2).trans rfl
    have f2 := Lib.frozen_of_heap Z3.out.bO 2
    obtain ⟨ra, rb, rc, hrr⟩ := Z3.out.bR
    have b0 := (Lib.cell_of_heap hrr 0).trans rfl
    have c0 := Lib.frozen_of_heap hrr 0
    have b1 := (Lib.cell_of_heap hrr 1).trans rfl
    have c1 := Lib.frozen_of_heap hrr 1
    have b2 := (Lib.cell_of_heap hrr 2).trans rfl
    have c2 := Lib.frozen_of_heap hrr 2
    clear hrr
    obtain ⟨W, eW, hB, hO, hF, hC⟩ := Z3.out.fin
    have HR := hide (And.intro hB (And.intro hO (And.intro hF hC)))
    have EW := hide eW
    clear hB hO hF hC eW Z3
    go_wp2
    rw [EW.out]
    refine box_ret (g := w.heap.size) (t := 26) (cs := #[.int .i64 x.owner, .slice p1 x.waits.length k1, .slice (some ⟨p, 0, none⟩) x.queues.length k2]) rfl rfl ?_ _ Try.underlying26 rfl (by kernel_rfl) rfl ?_
    · exact HR.out.1
    · exact ⟨_, _, { x with queues := x.queues.set i ((u : Int) % 6 - 2) }, rfl, HR.out.2.1, ⟨HX.out.sm.w, by show (x.queues.set _ _).length ≤ 3; rw [List.length_set]; exact HX.out.sm.q⟩, HR.out.2.2.1, HR.out.2.2.2⟩
  by_cases e3 : k = 3
  · subst e3
    have a0 := (Lib.cell_of_heap Z0.out.bO 0).trans rfl
    have f0 := Lib.frozen_of_heap Z0.out.bO 0
    have a1 := (Lib.cell_of_heap Z0.out.bO 1).trans rfl
    have f1 := Lib.frozen_of_heap Z0.out.bO 1
    have a2 := (Lib.cell_of_heap Z0.out.bO 2).trans rfl
    have f2 := Lib.frozen_of_heap Z0.out.bO 2
    have HV := hide (Z0.out.stays ((Below.refl _ _).alloc (Nat.le_refl _) (.cells #[.int .i64 (-1)] 3)))
    have HUV : Hid ((Z.alloc (.cells #[.int .i64 (-1)] 3)).cell? ⟨Z.heap.size, 0, none⟩ = some (.int .i64 (-1))) := hide (Lib.cell_of_heap (Box.made _ _ _) 0)
    have HOV : Hid ((Z.alloc (.cells #[.int .i64 (-1)] 3)).ownsRow (w.heap.size + 1) 3 1 (.slice (some ⟨p, 0, none⟩) x.queues.length k2) (x.queues.map I64).length (x.queues.map I64)) := by rw [List.length_map]; exact hide HV.out.own.o2
    have HLE : Hid (w.heap.size + 1 ≤ (Z.alloc (.cells #[.int .i64 (-1)] 3)).heap.size) := by have h1 := HV.out.bO.lt; have h2 := HV.out.hG; show _ ≤ _; omega
    go_upto_region 13 with (at_builtin; refine wpList_more rfl (.tmp 43) (.tmp 44) 24 rfl (w.heap.size + 1) 3 (.int .i64 0) 8 Try.underlying24 Try.infoInt rfl (.slice (some ⟨p, 0, none⟩) x.queues.length k2) (x.queues.map I64) rfl HOV.out Z.heap.size (.int .i64 (-1)) rfl HUV.out rfl ?_ ?_ HLE.out ?_; (rw [List.length_map]; unfold maxLen; have := HQ2.out; omega); (rw [List.length_map]; have := HQ2.out; omega); intro v' w' hm; have sh := form_own hm.own; obtain ⟨po, co, e9⟩ := sh; subst e9; have HBX := hide (box_more hm HOV.out HV.out.bO (by decide)); have Z3 := hide (HV.out.que hm); rw [List.length_map] at Z3; have m0 := (Lib.cell_of_heap HBX.out 2).trans rfl; have m1 := Lib.frozen_of_heap HBX.out 2; clear hm)
    obtain ⟨W5, hW5⟩ : ∃ W5, w'.setCell ⟨G, 2, none⟩ (.slice po (x.queues.length + 1) co) = W5 := ⟨_, rfl⟩
    rw [hW5] at Z3 ⊢
    clear hW5
    have a0 := (Lib.cell_of_heap Z3.out.bO 0).trans rfl
    have f0 := Lib.frozen_of_heap Z3.out.bO 0
    have a1 := (Lib.cell_of_heap Z3.out.bO 1).trans rfl
    have f1 := Lib.frozen_of_heap Z3.out.bO 1
    have a2 := (Lib.cell_of_heap Z3.out.bO 2).trans rfl
    have f2 := Lib.frozen_of_heap Z3.out.bO 2
    obtain ⟨ra, rb, rc, hrr⟩ := Z3.out.bR
    have b0 := (Lib.cell_of_heap hrr 0).trans rfl
    have c0 := Lib.frozen_of_heap hrr 0
    have b1 := (Lib.cell_of_heap hrr 1).trans rfl
    have c1 := Lib.frozen_of_heap hrr 1
    have b2 := (Lib.cell_of_heap hrr 2).trans rfl
    have c2 := Lib.frozen_of_heap hrr 2
    clear hrr
    obtain ⟨W, eW, hB, hO, hF, hC⟩ := Z3.out.fin
    have HR := hide (And.intro hB (And.intro hO (And.intro hF hC)))
    have EW := hide eW
    clear hB hO hF hC eW Z3
    go_wp2
    rw [EW.out]
    refine box_ret (g := w.heap.size) (t := 26) (cs := #[.int .i64 x.owner, .slice p1 x.waits.length k1, .slice po (x.queues.length + 1) co]) rfl rfl ?_ _ Try.underlying26 rfl (by kernel_rfl) rfl ?_
    · exact HR.out.1
    · exact ⟨_, _, { x with queues := x.queues ++ [-1] }, rfl, HR.out.2.1, ⟨HX.out.sm.w, by show (x.queues ++ [_]).length ≤ 3; rw [List.length_append, HQ2.out]; simp⟩, HR.out.2.2.1, HR.out.2.2.2⟩
  · have n0 : (k : Int) = 0 ↔ False := ⟨fun h => e0 (by omega), False.elim⟩
    have n1 : (k : Int) = 1 ↔ False := ⟨fun h => e1 (by omega), False.elim⟩
    have n2 : (k : Int) = 2 ↔ False := ⟨fun h => e2 (by omega), False.elim⟩
    have n3 : (k : Int) = 3 ↔ False := ⟨fun h => e3 (by omega), False.elim⟩
    have Z3 := Z0
    go_upto_region 13 with fail
    obtain ⟨W5, hW5⟩ : ∃ W5, Z = W5 := ⟨_, rfl⟩
    rw [hW5] at Z3 ⊢
    clear hW5
    have a0 := (Lib.cell_of_heap Z3.out.bO 0).trans rfl
    have f0 := Lib.frozen_of_heap Z3.out.bO 0
    have a1 := (Lib.cell_of_heap Z3.out.bO 1).trans rfl
    have f1 := Lib.frozen_of_heap Z3.out.bO 1
    have a2 := (Lib.cell_of_heap Z3.out.bO 2).trans rfl
    have f2 := Lib.frozen_of_heap Z3.out.bO 2
    obtain ⟨ra, rb, rc, hrr⟩ := Z3.out.bR
    have b0 := (Lib.cell_of_heap hrr 0).trans rfl
    have c0 := Lib.frozen_of_heap hrr 0
    have b1 := (Lib.cell_of_heap hrr 1).trans rfl
    have c1 := Lib.frozen_of_heap hrr 1
    have b2 := (Lib.cell_of_heap hrr 2).trans rfl
    have c2 := Lib.frozen_of_heap hrr 2
    clear hrr
    obtain ⟨W, eW, hB, hO, hF, hC⟩ := Z3.out.fin
    have HR := hide (And.intro hB (And.intro hO (And.intro hF hC)))
    have EW := hide eW
    clear hB hO hF hC eW Z3
    go_wp2
    rw [EW.out]
    refine box_ret (g := w.heap.size) (t := 26) (cs := #[.int .i64 x.owner, .slice p1 x.waits.length k1, .slice (some ⟨p, 0, none⟩) x.queues.length k2]) rfl rfl ?_ _ Try.underlying26 rfl (by kernel_rfl) rfl ?_
    · exact HR.out.1
    · exact ⟨_, _, x, rfl, HR.out.2.1, HX.out.sm, HR.out.2.2.1, HR.out.2.2.2⟩

theorem gate_fin {w : World} {r1 r2 : Value} {y : Gt} {z : World} (hr : ∃ a b c, Box z w.heap.size #[a, b, c] 26) (ho : GtOwn w.heap.size z r1 r2 y) (hb : Below w.heap.size w z) :
    ∃ W, ((z.setCell ⟨w.heap.size, 0, none⟩ (.int .i64 y.owner)).setCell ⟨w.heap.size, 1, none⟩ r1).setCell ⟨w.heap.size, 2, none⟩ r2 = W ∧ Box W w.heap.size #[.int .i64 y.owner, r1, r2] 26 ∧ GtOwn w.heap.size W r1 r2 y ∧ Below w.heap.size w W := by
  obtain ⟨a, b, c, hr⟩ := hr
  have hG1 := hr.set 0 (.int .i64 y.owner)
  rw [set_first] at hG1
  have hG2 := hG1.set 1 r1
  rw [set_second] at hG2
  have hG3 := hG2.set 2 r2
  rw [set_thd] at hG3
  exact ⟨_, rfl, hG3, ((ho.boxG (i := 0) hr (by decide) _).boxG (i := 1) hG1 (by decide) _).boxG (i := 2) hG2 (by decide) _, ((hb.setCell (p := ⟨w.heap.size, 0, none⟩) (Nat.le_refl _) _).setCell (p := ⟨w.heap.size, 1, none⟩) (Nat.le_refl _) _).setCell (p := ⟨w.heap.size, 2, none⟩) (Nat.le_refl _) _⟩

set_option maxRecDepth 100000 in
set_option maxHeartbeats 2000000 in
theorem drawGate (w : World) (base : Nat) (v : Value) (n : Nat) (hn : n ≤ 1048576) (H : CodeAt w base v n) (hb : base ≤ w.heap.size) :
    Calls Try.prog 7 #[v] w fun e w' => ∃ r1 r2 x, e = .returned (.agg #[.int .i64 x.owner, r1, r2]) ∧ GtOwn w.heap.size w' r1 r2 x ∧ Ok2 x ∧ Below w.heap.size w w' := by
  obtain ⟨W1, hW⟩ : ∃ W1, w.alloc (.cells #[.int .i64 0, .slice none 0 0, .slice none 0 0] 26) = W1 := ⟨_, rfl⟩
  have B1 : Hid (Below w.heap.size w W1) := by rw [← hW]; show Below w.heap.size w _; go_grown
  have BR : Hid (Box W1 w.heap.size #[.int .i64 0, .slice none 0 0, .slice none 0 0] 26) := by rw [← hW]; exact hide (Box.made _ _ _)
  have HS1 : Hid (W1.heap.size = w.heap.size + 1) := by rw [← hW]; show _ = _; simp
  have NW := hide (new_any W1 base v n hn (H.below (B1.out.mono hb)) (Nat.le_trans hb B1.out.size))
  have HW := hide hW
  clear hW H
  go_enter Try.func7, Try.ntmps7
  go_wp2_with fail
  rw [HW.out]
  refine NW.out.mono ?_
  rintro e z1 ⟨rfl, hb1, hc1⟩
  have HB1 := hide hb1
  have HC1 := hide hc1
  clear hb1 hc1
  go_wp2_with fail
  refine (l12Gate_any z1 base W1.heap.size HC1.out).mono ?_
  rintro e z2 ⟨r1, r2, x, rfl, ho2, hx2, hf2, hc2⟩
  obtain ⟨p1, k1, rfl⟩ := form_own ho2.o1
  obtain ⟨p2, k2, rfl⟩ := form_own ho2.o2
  have hs1 := HS1.out
  have hs2 := HB1.out.size
  have hr2 : Box z2 w.heap.size #[.int .i64 0, .slice none 0 0, .slice none 0 0] 26 := box_farG hf2 (BR.out.stays HB1.out) (by omega)
  have hbb : Below w.heap.size w z2 := (B1.out.trans (HB1.out.mono B1.out.size)).trans (hf2.below (by omega) (by omega))
  have s0 := (Lib.cell_of_heap hr2 0).trans rfl
  have g0 := Lib.frozen_of_heap hr2 0
  have s1 := (Lib.cell_of_heap hr2 1).trans rfl
  have g1 := Lib.frozen_of_heap hr2 1
  have s2 := (Lib.cell_of_heap hr2 2).trans rfl
  have g2 := Lib.frozen_of_heap hr2 2
  obtain ⟨W, eW, hB, hO, hF⟩ := gate_fin (w := w) ⟨_, _, _, hr2⟩ (ho2.lo (b := w.heap.size) (by omega)) hbb
  have HR := hide (And.intro hB (And.intro hO (And.intro hF (And.intro hx2 hc2))))
  have EW := hide eW
  clear hB hO hF eW ho2 hx2 hf2 hc2 hr2 hbb hs1 hs2
  go_wp2
  rw [EW.out]
  refine box_ret (g := w.heap.size) (t := 26) (cs := #[.int .i64 x.owner, .slice p1 x.waits.length k1, .slice p2 x.queues.length k2]) rfl rfl ?_ _ Try.underlying26 rfl (by kernel_rfl) rfl ?_
  · exact HR.out.1
  · exact ⟨_, _, _, rfl, HR.out.2.1, HR.out.2.2.2.1, HR.out.2.2.1⟩

set_option maxRecDepth 100000 in
set_option maxHeartbeats 2000000 in
theorem drawArrive (w : World) (base : Nat) (v : Value) (n : Nat) (hn : n ≤ 1048576) (H : CodeAt w base v n) (hb : base ≤ w.heap.size) :
    Calls Try.prog 17 #[v] w fun e w' => ∃ r1 r2 x, ∃ p : Int, e = .returned (.tuple #[.agg #[.int .i64 x.owner, r1, r2], .int .i64 p]) ∧ GtOwn w.heap.size w' r1 r2 x ∧ SmG x ∧ Below w.heap.size w w' := by
  obtain ⟨W1, hW⟩ : ∃ W1, w.alloc (.cells #[.int .i64 0, .slice none 0 0, .slice none 0 0] 26) = W1 := ⟨_, rfl⟩
  have B1 : Hid (Below w.heap.size w W1) := by rw [← hW]; show Below w.heap.size w _; go_grown
  have BR : Hid (Box W1 w.heap.size #[.int .i64 0, .slice none 0 0, .slice none 0 0] 26) := by rw [← hW]; exact hide (Box.made _ _ _)
  have HS1 : Hid (W1.heap.size = w.heap.size + 1) := by rw [← hW]; show _ = _; simp
  have NW := hide (new_any W1 base v n hn (H.below (B1.out.mono hb)) (Nat.le_trans hb B1.out.size))
  have HW := hide hW
  clear hW H
  go_enter Try.func17, Try.ntmps17
  go_wp2_with fail
  rw [HW.out]
  refine NW.out.mono ?_
  rintro e z1 ⟨rfl, hb1, hc1⟩
  have HB1 := hide hb1
  have HC1 := hide hc1
  clear hb1 hc1
  go_wp2_with fail
  refine (placeG_any z1 base W1.heap.size HC1.out).mono ?_
  rintro e z1b ⟨pl, rfl, hf1b, hc1b⟩
  have HF1b := hide hf1b
  have HC1b := hide hc1b
  clear hf1b hc1b
  go_wp2_with fail
  refine (l12Any_any z1b base W1.heap.size HC1b.out).mono ?_
  rintro e z2 ⟨r1, r2, x, rfl, ho2, hx2, hf2, hc2⟩
  obtain ⟨p1, k1, rfl⟩ := form_own ho2.o1
  obtain ⟨p2, k2, rfl⟩ := form_own ho2.o2
  have hs1 := HS1.out
  have hs2 := HB1.out.size
  have hs3 := HF1b.out.size
  have hr2 : Box z2 w.heap.size #[.int .i64 0, .slice none 0 0, .slice none 0 0] 26 := box_farG hf2 (box_farG HF1b.out (BR.out.stays HB1.out) (by omega)) (by omega)
  have hbb : Below w.heap.size w z2 := (B1.out.trans (HB1.out.mono B1.out.size)).trans ((HF1b.out.trans hf2).below (by omega) (by omega))
  have s0 := (Lib.cell_of_heap hr2 0).trans rfl
  have g0 := Lib.frozen_of_heap hr2 0
  have s1 := (Lib.cell_of_heap hr2 1).trans rfl
  have g1 := Lib.frozen_of_heap hr2 1
  have s2 := (Lib.cell_of_heap hr2 2).trans rfl
  have g2 := Lib.frozen_of_heap hr2 2
  obtain ⟨W, eW, hB, hO, hF⟩ := gate_fin (w := w) ⟨_, _, _, hr2⟩ (ho2.lo (b := w.heap.size) (by omega)) hbb
  have HR := hide (And.intro hB (And.intro hO (And.intro hF (And.intro hx2 hc2))))
  have EW := hide eW
  clear hB hO hF eW ho2 hx2 hf2 hc2 hr2 hbb hs1 hs2 hs3
  go_wp2
  rw [EW.out]
  refine box_retV (g := w.heap.size) (t := 26) (cs := #[.int .i64 x.owner, .slice p1 x.waits.length k1, .slice p2 x.queues.length k2]) rfl rfl ?_ _ Try.underlying26 rfl (by kernel_rfl) rfl ?_
  · exact HR.out.1
  exact ⟨_, _, _, pl, rfl, HR.out.2.1, HR.out.2.2.2.1, HR.out.2.2.1⟩

set_option maxRecDepth 100000 in
set_option maxHeartbeats 2000000 in
theorem pairG_any (w : World) (base : Nat) (v : Value) (n : Nat) (hn : n ≤ 1048576) (H : CodeAt w base v n) (hb : base ≤ w.heap.size) :
    Calls Try.prog 43 #[v] w fun e w' => ∃ r1 r2 x, ∃ p : Int, e = .returned (.tuple #[.agg #[.int .i64 x.owner, r1, r2], .int .i64 p]) ∧ GtOwn w.heap.size w' r1 r2 x ∧ SmG x ∧ Below w.heap.size w w' := by
  obtain ⟨W1, hW⟩ : ∃ W1, w.alloc (.cells #[.int .i64 0, .slice none 0 0, .slice none 0 0] 26) = W1 := ⟨_, rfl⟩
  have B1 : Hid (Below w.heap.size w W1) := by rw [← hW]; show Below w.heap.size w _; go_grown
  have BR : Hid (Box W1 w.heap.size #[.int .i64 0, .slice none 0 0, .slice none 0 0] 26) := by rw [← hW]; exact hide (Box.made _ _ _)
  have HS1 : Hid (W1.heap.size = w.heap.size + 1) := by rw [← hW]; show _ = _; simp
  have NW := hide (new_any W1 base v n hn (H.below (B1.out.mono hb)) (Nat.le_trans hb B1.out.size))
  have HW := hide hW
  clear hW H
  go_enter Try.func43, Try.ntmps43
  go_wp2_with fail
  rw [HW.out]
  refine NW.out.mono ?_
  rintro e z1 ⟨rfl, hb1, hc1⟩
  have HB1 := hide hb1
  have HC1 := hide hc1
  clear hb1 hc1
  have P := hide (fun w0 => pickInt_made z1 w0 base W1.heap.size [0, 1, 0, 1, 2, -1] 3 (by decide) (by decide) HC1.out)
  go_wp2_with fail
  refine (unhide P _ rfl).mono ?_
  rintro e z1b ⟨pl, _, rfl, hf1b, hc1b⟩
  have HF1b := hide hf1b
  have HC1b := hide hc1b
  clear hf1b hc1b
  go_wp2_with fail
  refine (l12Any_any z1b base W1.heap.size HC1b.out).mono ?_
  rintro e z2 ⟨r1, r2, x, rfl, ho2, hx2, hf2, hc2⟩
  obtain ⟨p1, k1, rfl⟩ := form_own ho2.o1
  obtain ⟨p2, k2, rfl⟩ := form_own ho2.o2
  have hs1 := HS1.out
  have hs2 := HB1.out.size
  have hs3 := HF1b.out.size
  have hr2 : Box z2 w.heap.size #[.int .i64 0, .slice none 0 0, .slice none 0 0] 26 := box_farG hf2 (box_farG HF1b.out (BR.out.stays HB1.out) (by omega)) (by omega)
  have hbb : Below w.heap.size w z2 := (B1.out.trans (HB1.out.mono B1.out.size)).trans ((HF1b.out.trans hf2).below (by omega) (by omega))
  have s0 := (Lib.cell_of_heap hr2 0).trans rfl
  have g0 := Lib.frozen_of_heap hr2 0
  have s1 := (Lib.cell_of_heap hr2 1).trans rfl
  have g1 := Lib.frozen_of_heap hr2 1
  have s2 := (Lib.cell_of_heap hr2 2).trans rfl
  have g2 := Lib.frozen_of_heap hr2 2
  obtain ⟨W, eW, hB, hO, hF⟩ := gate_fin (w := w) ⟨_, _, _, hr2⟩ (ho2.lo (b := w.heap.size) (by omega)) hbb
  have HR := hide (And.intro hB (And.intro hO (And.intro hF (And.intro hx2 hc2))))
  have EW := hide eW
  clear hB hO hF eW ho2 hx2 hf2 hc2 hr2 hbb hs1 hs2 hs3
  go_wp2
  rw [EW.out]
  refine box_retV (g := w.heap.size) (t := 26) (cs := #[.int .i64 x.owner, .slice p1 x.waits.length k1, .slice p2 x.queues.length k2]) rfl rfl ?_ _ Try.underlying26 rfl (by kernel_rfl) rfl ?_
  · exact HR.out.1
  exact ⟨_, _, _, pl, rfl, HR.out.2.1, HR.out.2.2.2.1, HR.out.2.2.1⟩

set_option maxRecDepth 100000 in
set_option maxHeartbeats 2000000 in
theorem drawDelayIn (w : World) (base : Nat) (v : Value) (n : Nat) (hn : n ≤ 1048576) (H : CodeAt w base v n) (hb : base ≤ w.heap.size) :
    Calls Try.prog 19 #[v] w fun e w' => ∃ r1 r2 x, ∃ p : Int, e = .returned (.tuple #[.agg #[.int .i64 x.owner, r1, r2], .int .i64 p]) ∧ GtOwn w.heap.size w' r1 r2 x ∧ SmG x ∧ Below w.heap.size w w' := by
  obtain ⟨W1, hW⟩ : ∃ W1, w.alloc (.cells #[.int .i64 0, .slice none 0 0, .slice none 0 0] 26) = W1 := ⟨_, rfl⟩
  have B1 : Hid (Below w.heap.size w W1) := by rw [← hW]; show Below w.heap.size w _; go_grown
  have BR : Hid (Box W1 w.heap.size #[.int .i64 0, .slice none 0 0, .slice none 0 0] 26) := by rw [← hW]; exact hide (Box.made _ _ _)
  have HS1 : Hid (W1.heap.size = w.heap.size + 1) := by rw [← hW]; show _ = _; simp
  have NW := hide (pairG_any W1 base v n hn (H.below (B1.out.mono hb)) (Nat.le_trans hb B1.out.size))
  have HW := hide hW
  clear hW H
  go_enter Try.func19, Try.ntmps19
  go_wp2_with fail
  rw [HW.out]
  refine NW.out.mono ?_
  rintro e z2 ⟨r1, r2, x, pl, rfl, ho2, hx2, hb2⟩
  obtain ⟨p1, k1, rfl⟩ := form_own ho2.o1
  obtain ⟨p2, k2, rfl⟩ := form_own ho2.o2
  have hs1 := HS1.out
  have hr2 : Box z2 w.heap.size #[.int .i64 0, .slice none 0 0, .slice none 0 0] 26 := BR.out.stays hb2
  have hbb : Below w.heap.size w z2 := B1.out.trans (hb2.mono B1.out.size)
  have s0 := (Lib.cell_of_heap hr2 0).trans rfl
  have g0 := Lib.frozen_of_heap hr2 0
  have s1 := (Lib.cell_of_heap hr2 1).trans rfl
  have g1 := Lib.frozen_of_heap hr2 1
  have s2 := (Lib.cell_of_heap hr2 2).trans rfl
  have g2 := Lib.frozen_of_heap hr2 2
  obtain ⟨W, eW, hB, hO, hF⟩ := gate_fin (w := w) ⟨_, _, _, hr2⟩ (ho2.lo (b := w.heap.size) (by omega)) hbb
  have HR := hide (And.intro hB (And.intro hO (And.intro hF hx2)))
  have EW := hide eW
  clear hB hO hF eW ho2 hx2 hb2 hr2 hbb hs1
  go_wp2
  rw [EW.out]
  refine box_retV (g := w.heap.size) (t := 26) (cs := #[.int .i64 x.owner, .slice p1 x.waits.length k1, .slice p2 x.queues.length k2]) rfl rfl ?_ _ Try.underlying26 rfl (by kernel_rfl) rfl ?_
  · exact HR.out.1
  · exact ⟨_, _, _, pl, rfl, HR.out.2.1, HR.out.2.2.2, HR.out.2.2.1⟩
end Go.Proofs.Ytbikdpljhnhcaaa

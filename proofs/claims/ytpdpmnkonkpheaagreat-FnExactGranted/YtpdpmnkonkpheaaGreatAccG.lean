/-
  Walks: whether a program is granted, by the specification.
-/
import Derived.Test.YtpdpmnkonkpheaaGreatAccW
import Derived.Test.YtpdpmnkonkpheaaGreatScoW
import Derived.Test.YtpdpmnkonkpheaaGreatPurS
import Derived.Test.YtpdpmnkonkpheaaGreatNamC
import Derived.Test.YtpdpmnkonkpheaaGreatImvL
import Derived.Maps.RangeWalk
namespace Go.Proofs.YtpdpmnkonkpheaaGreat
open Go.RowKit

/-- What the process at a place calls. -/
def callsS (x : Pg) (i : Nat) : List Int := callsTo x.nodes (plTo (undL x.nodes x.nodes.length (x.pros.getD i default).body.toNat) x.nodes.length) x.mons x.mons.length
noncomputable def grantS (x : Pg) : Bool := decide (specScope x = 0) && (List.range x.pros.length).all fun i => (callsS x i).all fun m => usesP x.mons x.pros (i : Int) m
theorem scope_right {x : Pg} (h : specScope x = 0) : specProgB x = true := by
  cases e : specProgB x with
  | true => rfl
  | false =>
    rw [specScope, if_pos (Or.inl e)] at h
    omega
theorem right_deep {x : Pg} (h : specProgB x = true) : ∀ b ∈ bodiesL x.mons x.pros, deepS x.nodes b ≠ 0 := fun b hb => by
  have h1 := right_bodies h b hb
  have hk : b.toNat < x.nodes.length := by omega
  have h2 := List.all_eq_true.1 (right_parts h).1 _ (List.getElem_mem (show b.toNat < (deepsTo x.nodes x.nodes.length).length by rw [deepsTo_len]; exact hk))
  have h3 : (deepsTo x.nodes x.nodes.length).getD b.toNat 0 = (deepsTo x.nodes x.nodes.length)[b.toNat]'(by rw [deepsTo_len]; exact hk) := by
    simp [List.getD_eq_getElem?_getD, List.getElem?_eq_getElem (show b.toNat < (deepsTo x.nodes x.nodes.length).length by rw [deepsTo_len]; exact hk)]
  rw [← h3] at h2
  rw [deepS, if_pos h1]
  have := (inZ_yes.1 h2).1
  omega
theorem callsS_in {x : Pg} {i : Nat} {m : Int} (h : m ∈ callsS x i) : 0 ≤ m ∧ m < (x.mons.length : Int) := by
  obtain ⟨q, hq, rfl⟩ := List.mem_map.1 h
  have := List.mem_range.1 (List.mem_filter.1 hq).1
  omega
theorem mem_bodyQ {ms : List Mo} {ps : List Pr} {p : Pr} (hp : p ∈ ps) : p.body ∈ bodiesL ms ps := List.mem_append.2 (.inr (List.mem_map.2 ⟨p, hp, rfl⟩))
structure GrZ (w : World) (nv mv pv : Value) (z : World) : Prop where
  bp : Boxed w.heap.size z nv mv pv
  bel : Below w.heap.size w z
theorem GrZ.stays {w : World} {nv mv pv : Value} {z z' : World} (h : GrZ w nv mv pv z) (hb : Below z.heap.size z z') : GrZ w nv mv pv z' := ⟨h.bp.stays hb, h.bel.trans (hb.mono h.bel.size)⟩
def GoR (w : World) (nv mv pv : Value) (q : Nat) (G : Nat → Prop) (iv : Value) (wr : World) : Prop := ∃ i : Nat, i ≤ q ∧ iv = .int .i64 i ∧ Hid (GrZ w nv mv pv wr) ∧ Hid (∀ j < i, G j)
structure GiZ (w : World) (nv mv pv lv : Value) (ls : List Int) (z : World) : Prop where
  g : GrZ w nv mv pv z
  row : z.ownsRow 0 3 1 lv ls.length (ls.map I64)
theorem GiZ.stays {w : World} {nv mv pv lv : Value} {ls : List Int} {z z' : World} (h : GiZ w nv mv pv lv ls z) (hb : Below z.heap.size z z') : GiZ w nv mv pv lv ls z' := ⟨h.g.stays hb, ownsInts_stays h.row hb⟩
def GiR (w : World) (nv mv pv lv : Value) (ls : List Int) (G : Int → Prop) (iv : Value) (wr : World) : Prop := ∃ i : Nat, i ≤ ls.length ∧ iv = .int .i64 i ∧ Hid (GiZ w nv mv pv lv ls wr) ∧ Hid (∀ j (h : j < ls.length), j < i → G ls[j])

set_option maxRecDepth 100000 in
set_option maxHeartbeats 4000000 in
theorem specGranted_any (nv mv pv : Value) (x : Pg) (w : World) (hN : NdsAt w nv x.nodes) (hM : MosAt w mv x.mons) (hP : PrsAt w pv x.pros) (hF : PgFit x) :
    Calls Tryz.prog 5 #[.agg #[nv, mv, pv]] w fun e w' => e = .returned (.bool (grantS x)) ∧ Below w.heap.size w w' := by
  have hb1 : Below w.heap.size w (w.alloc (.cells #[nv, mv, pv] 33)) := (Below.refl _ _).alloc (Nat.le_refl _) _
  have HN := hide hN
  have HM := hide hM
  have HP := hide hP
  have HX := hide (Boxed.made w nv mv pv 33)
  have HB := hide hb1
  have CS := fun z (h : Below w.heap.size w z) => hide (specScope_any nv mv pv x z (hN.stays h) (hM.stays h) (hP.stays h) hF)
  have CC := fun j b z (h : Below w.heap.size w z) hj hb hk hK hD => hide (specCallsOf_any nv mv pv x.nodes x.mons x.pros j b z (hN.stays h) (hM.stays h) (hP.stays h) hj hb hk hF.len.nl hF.len.ml hF.len.pl hF.nodes hF.len.kids hK hD)
  have CU := fun i m z (h : Below w.heap.size w z) => hide (specUses_any nv mv pv x.mons x.pros i m z hN.sl (hM.stays h) (hP.stays h) hF.len.ml hF.len.pl (fun p hp => (hF.len.pro p hp).1))
  have hpl := hF.len.pl
  have hml := hF.len.ml
  obtain ⟨no, nc, rfl, _⟩ := hN
  obtain ⟨mo, mc, rfl, _⟩ := hM
  obtain ⟨po, pc, rfl, _⟩ := hP
  clear hb1
  obtain ⟨R, eR⟩ : ∃ R, grantS x = R := ⟨_, rfl⟩
  have ER := hide eR
  rw [eR]
  clear eR
  obtain ⟨c0, c1, c2, _⟩ := HX.out
  obtain ⟨sc, esc⟩ : ∃ sc, specScope x = sc := ⟨_, rfl⟩
  rw [esc] at CS
  by_cases h0 : sc = 0
  case neg =>
    have eR2 : R = false := by rw [← ER.out, grantS, decide_eq_false (by rw [esc]; exact h0)]; rfl
    subst eR2
    have h0' : (sc == 0) = false := by simpa using h0
    clear esc CC CU
    go_enter Tryz.func5, Tryz.ntmps5
    go_wp2_with (go_at_call 12; refine (unhide (CS _ HB.out)).mono ?_; rintro e w1 ⟨rfl, hb2⟩)
    go_ret
    exact ⟨rfl, HB.out.trans (hb2.mono HB.out.size)⟩
  case pos =>
    subst h0
    have HPR := hide (scope_right esc)
    have HGR : Hid (R = (List.range x.pros.length).all fun i => (callsS x i).all fun m => usesP x.mons x.pros (i : Int) m) := by
      show _ = _
      rw [← ER.out, grantS, decide_eq_true esc, Bool.true_and]
    clear esc ER
    go_enter Tryz.func5, Tryz.ntmps5
    go_wp2_with fail
    refine (unhide (CS _ HB.out)).mono ?_
    rintro e w1 ⟨rfl, hb2⟩
    have Z0 : Hid (GrZ w (.slice no x.nodes.length nc) (.slice mo x.mons.length mc) (.slice po x.pros.length pc) w1) := ⟨HX.out.stays hb2, HB.out.trans (hb2.mono HB.out.size)⟩
    clear hb2 c0 c1 c2 HX HB CS
    obtain ⟨c0, c1, c2, _⟩ := Z0.out.bp
    obtain ⟨q, eq⟩ : ∃ q, x.pros.length = q := ⟨_, rfl⟩
    have EQ := hide eq
    simp only [eq] at CU
    rw [eq] at Z0 hpl c2 ⊢
    clear eq
    go_wp2
    clear c0 c1 c2
    go_loopw [3] (GoR w (.slice no x.nodes.length nc) (.slice mo x.mons.length mc) (.slice po q pc) q (fun j => (callsS x j).all (fun m => usesP x.mons x.pros (j : Int) m) = true)) (fun iv _ => q - (intOf iv).toNat)
    case atStart => exact ⟨0, by omega, rfl, Z0.out, fun j hj => absurd hj (Nat.not_lt_zero j)⟩
    case round =>
      clear Z0
      obtain ⟨i, hi, rfl, Z, HG⟩ := hrel
      obtain ⟨c0, c1, c2, _⟩ := Z.out.bp
      by_cases hlt : i < q
      · have hlt' : (i : Int) < (q : Int) := by omega
        have hi0 : (0 : Int) ≤ (i : Int) := by omega
        have hix : i < x.pros.length := by rw [EQ.out]; exact hlt
        have HBAD : Hid ((callsS x i).all (fun m => usesP x.mons x.pros (i : Int) m) = false → R = false) := fun h => by
          rw [HGR.out]
          cases e : (List.range x.pros.length).all fun i => (callsS x i).all fun m => usesP x.mons x.pros (i : Int) m with
          | false => rfl
          | true =>
            have h2 := List.all_eq_true.1 e i (List.mem_range.2 hix)
            rw [h] at h2
            cases h2
        have hbm := mem_bodyQ (ms := x.mons) (List.getElem_mem hix)
        have hbr := right_bodies HPR.out _ hbm
        have hbd := right_deep HPR.out _ hbm
        obtain ⟨bd, ebd⟩ : ∃ bd : Nat, x.pros[i].body = (bd : Int) := ⟨x.pros[i].body.toNat, by omega⟩
        rw [ebd] at hbr hbd
        have CC1 := CC i bd wr Z.out.bel hix ebd (by omega) (right_kids HPR.out) hbd
        rw [EQ.out] at CC1
        have ECS : callsS x i = callsTo x.nodes (plTo (undL x.nodes x.nodes.length bd) x.nodes.length) x.mons x.mons.length := by
          unfold callsS
          rw [List.getD_eq_getElem?_getD, List.getElem?_eq_getElem hix]
          show callsTo x.nodes (plTo (undL x.nodes x.nodes.length x.pros[i].body.toNat) x.nodes.length) x.mons x.mons.length = _
          rw [ebd, Int.toNat_natCast]
        rw [← ECS] at CC1
        have HLN : Hid ((callsS x i).length ≤ 1048576) := by rw [ECS]; exact Nat.le_trans (callsTo_len _ _ _ _) hml
        obtain ⟨ls, els⟩ : ∃ ls, callsS x i = ls := ⟨_, rfl⟩
        rw [els] at CC1 HBAD HLN
        have HELS := hide els
        clear ECS hbm hbr hbd ebd els hix
        go_wp2_with fail
        refine (unhide CC1).mono ?_
        rintro e w2 ⟨lv, rfl, ho2, hb2⟩
        have Z2 : Hid (GiZ w (.slice no x.nodes.length nc) (.slice mo x.mons.length mc) (.slice po q pc) lv ls w2) := ⟨Z.out.stays hb2, ownsRow_low ho2 (Nat.zero_le _)⟩
        obtain ⟨lo, lc, rfl, _⟩ := ints_own Z2.out.row
        clear ho2 hb2 CC1 c0 c1 c2 Z
        obtain ⟨t, et⟩ : ∃ t, ls.length = t := ⟨_, rfl⟩
        have ET := hide et
        have htl : t ≤ 1048576 := by rw [← et]; exact HLN.out
        rw [et] at Z2 ⊢
        clear et
        go_wp2
        go_loopw [5] (GiR w (.slice no x.nodes.length nc) (.slice mo x.mons.length mc) (.slice po q pc) (.slice lo t lc) ls (fun m => usesP x.mons x.pros (i : Int) m = true)) (fun iv _ => t - (intOf iv).toNat)
        case atStart => exact ⟨0, by omega, rfl, Z2.out, fun j _ hj => absurd hj (Nat.not_lt_zero j)⟩
        case round =>
          clear Z2
          obtain ⟨k, hk, rfl, Z, HK⟩ := hrel
          rw [ET.out] at hk
          obtain ⟨c0, c1, c2, _⟩ := Z.out.g.bp
          by_cases hlt2 : k < t
          · have hlt2' : (k : Int) < (t : Int) := by omega
            have hk0 : (0 : Int) ≤ (k : Int) := by omega
            have hkx : k < ls.length := by rw [ET.out]; exact hlt2
            obtain ⟨lo', lc', e5, hlc⟩ := ints_own Z.out.row
            injection e5 with e6 e7 e8
            subst e6
            obtain ⟨la, rfl, _, _⟩ := hlc k hkx
            have HLC : Hid (∀ z, GiZ w (.slice no x.nodes.length nc) (.slice mo x.mons.length mc) (.slice po q pc) (.slice (some la) t lc) ls z → z.cell? (la.add k) = some (.int .i64 ls[k])) := fun z hz => by
              obtain ⟨_, _, e5, h5⟩ := ints_own hz.row
              injection e5 with e6 _ _
              subst e6
              obtain ⟨a, ea, _, h⟩ := h5 k hkx
              injection ea with ea
              subst ea
              exact h
            have HBAD2 : Hid (usesP x.mons x.pros (i : Int) ls[k] = false → R = false) := fun h => HBAD.out (allB_no hkx h)
            have HGOOD2 : Hid (usesP x.mons x.pros (i : Int) ls[k] = true → ∀ j (hj : j < ls.length), j < k + 1 → usesP x.mons x.pros (i : Int) ls[j] = true) := fun h j hj hjk => by
              by_cases e : j = k
              · subst e; exact h
              · exact HK.out j hj (by omega)
            obtain ⟨mm, em⟩ : ∃ mm, ls[k] = mm := ⟨_, rfl⟩
            rw [em] at HLC HBAD2 HGOOD2
            have CU1 := fun z h => CU (i : Int) mm z h
            obtain ⟨ub, eub⟩ : ∃ ub, usesP x.mons x.pros (i : Int) mm = ub := ⟨_, rfl⟩
            rw [eub] at CU1 HBAD2 HGOOD2
            clear hlc e7 e8 em eub HK
            cases ub with
            | false =>
              have eR2 : R = false := HBAD2.out rfl
              subst eR2
              go_wp2_with fail
              have KC : Hid (∀ z, GiZ w (.slice no x.nodes.length nc) (.slice mo x.mons.length mc) (.slice po q pc) (.slice (some la) t lc) ls z → (z.cell? { block := w.heap.size, off := 0 } = some (.slice no x.nodes.length nc) ∧ z.cell? { block := w.heap.size, off := 1 } = some (.slice mo x.mons.length mc) ∧ z.cell? { block := w.heap.size, off := 2 } = some (.slice po q pc) ∧ z.cell? (la.add k) = some (.int .i64 mm) ∧ Hid (GiZ w (.slice no x.nodes.length nc) (.slice mo x.mons.length mc) (.slice po q pc) (.slice (some la) t lc) ls z))) := fun z hz => by
                obtain ⟨c0, c1, c2, _⟩ := hz.g.bp
                exact ⟨c0, c1, c2, HLC.out z hz, hz⟩
              have KV : Hid (∀ z, (z.cell? { block := w.heap.size, off := 0 } = some (.slice no x.nodes.length nc) ∧ z.cell? { block := w.heap.size, off := 1 } = some (.slice mo x.mons.length mc) ∧ z.cell? { block := w.heap.size, off := 2 } = some (.slice po q pc) ∧ z.cell? (la.add k) = some (.int .i64 mm) ∧ Hid (GiZ w (.slice no x.nodes.length nc) (.slice mo x.mons.length mc) (.slice po q pc) (.slice (some la) t lc) ls z)) → GiZ w (.slice no x.nodes.length nc) (.slice mo x.mons.length mc) (.slice po q pc) (.slice (some la) t lc) ls z) := fun z hz => hz.2.2.2.2.out
              have KP : Hid (∀ z z', (z.cell? { block := w.heap.size, off := 0 } = some (.slice no x.nodes.length nc) ∧ z.cell? { block := w.heap.size, off := 1 } = some (.slice mo x.mons.length mc) ∧ z.cell? { block := w.heap.size, off := 2 } = some (.slice po q pc) ∧ z.cell? (la.add k) = some (.int .i64 mm) ∧ Hid (GiZ w (.slice no x.nodes.length nc) (.slice mo x.mons.length mc) (.slice po q pc) (.slice (some la) t lc) ls z)) → Below z.heap.size z z' → (z'.cell? { block := w.heap.size, off := 0 } = some (.slice no x.nodes.length nc) ∧ z'.cell? { block := w.heap.size, off := 1 } = some (.slice mo x.mons.length mc) ∧ z'.cell? { block := w.heap.size, off := 2 } = some (.slice po q pc) ∧ z'.cell? (la.add k) = some (.int .i64 mm) ∧ Hid (GiZ w (.slice no x.nodes.length nc) (.slice mo x.mons.length mc) (.slice po q pc) (.slice (some la) t lc) ls z'))) := fun z z' hz hb => KC.out _ ((KV.out _ hz).stays hb)
              have K0 := hide (KC.out _ (Z.out.stays (Below.refl _ _).drew))
              clear c0 c1 c2
              go_region_held3 (fun z => z.cell? { block := w.heap.size, off := 0 } = some (.slice no x.nodes.length nc) ∧ z.cell? { block := w.heap.size, off := 1 } = some (.slice mo x.mons.length mc) ∧ z.cell? { block := w.heap.size, off := 2 } = some (.slice po q pc) ∧ z.cell? (la.add k) = some (.int .i64 mm) ∧ Hid (GiZ w (.slice no x.nodes.length nc) (.slice mo x.mons.length mc) (.slice po q pc) (.slice (some la) t lc) ls z)) (first | exact K0.out | exact KP.out _ _ (by assumption) hb7) ((go_at_call 14; refine (unhide (CU1 _ (KV.out _ (by assumption)).g.bel)).mono ?_; rintro e w7 ⟨rfl, hb7⟩))
              all_goals go_wp2
              all_goals go_ret
              all_goals exact ⟨rfl, (KV.out _ (by assumption)).g.bel⟩
            | true =>
              have GG := hide (HGOOD2.out rfl)
              go_wp2_with fail
              have KC : Hid (∀ z, GiZ w (.slice no x.nodes.length nc) (.slice mo x.mons.length mc) (.slice po q pc) (.slice (some la) t lc) ls z → (z.cell? { block := w.heap.size, off := 0 } = some (.slice no x.nodes.length nc) ∧ z.cell? { block := w.heap.size, off := 1 } = some (.slice mo x.mons.length mc) ∧ z.cell? { block := w.heap.size, off := 2 } = some (.slice po q pc) ∧ z.cell? (la.add k) = some (.int .i64 mm) ∧ Hid (GiZ w (.slice no x.nodes.length nc) (.slice mo x.mons.length mc) (.slice po q pc) (.slice (some la) t lc) ls z))) := fun z hz => by
                obtain ⟨c0, c1, c2, _⟩ := hz.g.bp
                exact ⟨c0, c1, c2, HLC.out z hz, hz⟩
              have KV : Hid (∀ z, (z.cell? { block := w.heap.size, off := 0 } = some (.slice no x.nodes.length nc) ∧ z.cell? { block := w.heap.size, off := 1 } = some (.slice mo x.mons.length mc) ∧ z.cell? { block := w.heap.size, off := 2 } = some (.slice po q pc) ∧ z.cell? (la.add k) = some (.int .i64 mm) ∧ Hid (GiZ w (.slice no x.nodes.length nc) (.slice mo x.mons.length mc) (.slice po q pc) (.slice (some la) t lc) ls z)) → GiZ w (.slice no x.nodes.length nc) (.slice mo x.mons.length mc) (.slice po q pc) (.slice (some la) t lc) ls z) := fun z hz => hz.2.2.2.2.out
              have KP : Hid (∀ z z', (z.cell? { block := w.heap.size, off := 0 } = some (.slice no x.nodes.length nc) ∧ z.cell? { block := w.heap.size, off := 1 } = some (.slice mo x.mons.length mc) ∧ z.cell? { block := w.heap.size, off := 2 } = some (.slice po q pc) ∧ z.cell? (la.add k) = some (.int .i64 mm) ∧ Hid (GiZ w (.slice no x.nodes.length nc) (.slice mo x.mons.length mc) (.slice po q pc) (.slice (some la) t lc) ls z)) → Below z.heap.size z z' → (z'.cell? { block := w.heap.size, off := 0 } = some (.slice no x.nodes.length nc) ∧ z'.cell? { block := w.heap.size, off := 1 } = some (.slice mo x.mons.length mc) ∧ z'.cell? { block := w.heap.size, off := 2 } = some (.slice po q pc) ∧ z'.cell? (la.add k) = some (.int .i64 mm) ∧ Hid (GiZ w (.slice no x.nodes.length nc) (.slice mo x.mons.length mc) (.slice po q pc) (.slice (some la) t lc) ls z'))) := fun z z' hz hb => KC.out _ ((KV.out _ hz).stays hb)
              have K0 := hide (KC.out _ (Z.out.stays (Below.refl _ _).drew))
              clear c0 c1 c2
              go_region_held3 (fun z => z.cell? { block := w.heap.size, off := 0 } = some (.slice no x.nodes.length nc) ∧ z.cell? { block := w.heap.size, off := 1 } = some (.slice mo x.mons.length mc) ∧ z.cell? { block := w.heap.size, off := 2 } = some (.slice po q pc) ∧ z.cell? (la.add k) = some (.int .i64 mm) ∧ Hid (GiZ w (.slice no x.nodes.length nc) (.slice mo x.mons.length mc) (.slice po q pc) (.slice (some la) t lc) ls z)) (first | exact K0.out | exact KP.out _ _ (by assumption) hb7) ((go_at_call 14; refine (unhide (CU1 _ (KV.out _ (by assumption)).g.bel)).mono ?_; rintro e w7 ⟨rfl, hb7⟩))
              have D := hide (KV.out w7 (by assumption))
              go_wp2
              go_roundw
              case rel => exact ⟨k + 1, by rw [ET.out]; omega, by go_num, D.out, GG.out⟩
              case measure => simp [intOf]; omega
          · have hlt2' : ¬ (k : Int) < (t : Int) := by omega
            have GA : Hid (∀ j < i + 1, (callsS x j).all (fun m => usesP x.mons x.pros (j : Int) m) = true) := fun j hj => by
              by_cases e : j = i
              · subst e
                rw [HELS.out]
                exact allB_yes fun m hm => HK.out m hm (by have := hm; rw [ET.out] at this; omega)
              · exact HG.out j (by omega)
            clear HK
            go_wp2
            go_roundw
            case rel => exact ⟨i + 1, by omega, by go_num, Z.out.g, GA.out⟩
            case measure => simp [intOf]; omega
      · have hlt' : ¬ (i : Int) < (q : Int) := by omega
        have eR2 : R = true := by
          rw [HGR.out]
          exact List.all_eq_true.2 fun j hj => HG.out j (by have := List.mem_range.1 hj; rw [EQ.out] at this; omega)
        subst eR2
        go_wp2
        go_ret
        exact ⟨rfl, Z.out.bel⟩
end Go.Proofs.YtpdpmnkonkpheaaGreat

namespace Go.Proofs.YtpdpmnkonkpheaaGreat
open Go.RowKit

theorem firstNZ_all0 : ∀ {l : List Int}, firstNZ l = 0 → ∀ c ∈ l, c = 0
  | [], _, _, hc => by simp at hc
  | d :: l, h, c, hc => by
    have h' : (if d = 0 then firstNZ l else d) = 0 := h
    by_cases hd : d = 0
    · rw [if_pos hd] at h'
      rcases List.mem_cons.1 hc with e | e
      · rw [e, hd]
      · exact firstNZ_all0 h' c e
    · rw [if_neg hd] at h'
      exact absurd h' hd
theorem scope_called {x : Pg} (h : specScope x = 0) {k : Nat} (hk : k < x.nodes.length) (h14 : (x.nodes.getD k default).kind = 14) : ∃ m, m < x.mons.length ∧ (x.mons.getD m default).name = (x.nodes.getD k default).name := by
  have hs := scope_right h
  unfold specScope at h
  by_cases hc : specProgB x = false ∨ namB x.mons x.pros = false
  · rw [if_pos hc] at h
    omega
  rw [if_neg hc] at h
  have h0 := firstNZ_all0 h _ (List.mem_map.2 ⟨k, List.mem_range.2 hk, rfl⟩)
  unfold codeN at h0
  split at h0
  · unfold codeP at h0
    rw [if_pos h14] at h0
    split at h0
    · omega
    · split at h0
      · omega
      · next hn =>
        have h1 : ¬ entAt x.mons (firstAt (monN (x.nodes.getD k default).name) x.mons) (x.nodes.getD k default).more < 0 := fun q => hn (.inr q)
        have h2 : ¬ firstAt (monN (x.nodes.getD k default).name) x.mons < 0 := fun q => h1 (by rw [entAt_out (fun e => by omega)]; omega)
        have h3 : x.mons.any (monN (x.nodes.getD k default).name) = true := by
          cases e : x.mons.any (monN (x.nodes.getD k default).name) with
          | true => rfl
          | false => exact absurd (first_neg.2 e) h2
        obtain ⟨y, hy, hq⟩ := List.any_eq_true.1 h3
        obtain ⟨m, hm, rfl⟩ := List.getElem_of_mem hy
        exact ⟨m, hm, by rw [getD_of hm]; exact of_decide_eq_true hq⟩
  · unfold codeM at h0
    rw [if_pos (.inl h14)] at h0
    omega
theorem mem_plTo {u : List Bool} {i : Nat} {y : Int} : y ∈ plTo u i ↔ ∃ j, j < i ∧ u.getD j false = true ∧ (j : Int) = y := by
  unfold plTo
  constructor
  · intro h
    obtain ⟨j, hj, e⟩ := List.mem_map.1 h
    have h2 := List.mem_filter.1 hj
    exact ⟨j, List.mem_range.1 h2.1, h2.2, e⟩
  · rintro ⟨j, h1, h2, e⟩
    exact List.mem_map.2 ⟨j, List.mem_filter.2 ⟨List.mem_range.2 h1, h2⟩, e⟩
theorem mem_callN {ns : List Nd} {ls : List Int} {s : ByteArray} : s ∈ callN ns ls ↔ ∃ y ∈ ls, (ns.getD y.toNat default).kind = 14 ∧ (ns.getD y.toNat default).name = s := by
  unfold callN
  constructor
  · intro h
    obtain ⟨y, hy, e⟩ := List.mem_map.1 h
    have h2 := List.mem_filter.1 hy
    exact ⟨y, h2.1, by simpa using h2.2, e⟩
  · rintro ⟨y, h1, h2, e⟩
    exact List.mem_map.2 ⟨y, List.mem_filter.2 ⟨h1, by simpa using h2⟩, e⟩
/-- What the program asks of a process: all that it calls is used. -/
def keptP (ns : List Nd) (p : Pr) : Bool := (callN ns (plTo (undI ns p.body.toNat) (p.body.toNat + 1))).all fun s => memB p.uses s
noncomputable def grantI (x : Pg) : Bool := decide (implScope x = 0) && x.pros.all (keptP x.nodes)
theorem grant_eq (x : Pg) : grantS x = grantI x := by
  unfold grantS grantI
  rw [← scope_eq]
  by_cases h : specScope x = 0
  · rw [decide_eq_true h, Bool.true_and, Bool.true_and]
    have hs := scope_right h
    rw [Bool.eq_iff_iff, List.all_eq_true, List.all_eq_true]
    constructor
    · intro hA p hp
      obtain ⟨i, hi, rfl⟩ := List.getElem_of_mem hp
      refine List.all_eq_true.2 fun s hsc => ?_
      obtain ⟨y, hy, h14, hnm⟩ := mem_callN.1 hsc
      obtain ⟨k, hk, hu, rfl⟩ := mem_plTo.1 hy
      have hb := right_bodies hs _ (mem_bodyQ (ms := x.mons) (List.getElem_mem hi))
      have hbn : (x.pros[i].body.toNat) < x.nodes.length := by omega
      rw [Int.toNat_natCast] at h14 hnm
      obtain ⟨m, hm, em⟩ := scope_called h (k := k) (by omega) h14
      have h1 := List.all_eq_true.1 (hA i (List.mem_range.2 hi)) (m : Int) ?_
      · rw [usesP_in hi hm] at h1
        rw [getD_of hm] at em
        rw [← hnm, ← em]
        exact h1
      · unfold callsS callsTo
        refine List.mem_map.2 ⟨m, List.mem_filter.2 ⟨List.mem_range.2 hm, ?_⟩, rfl⟩
        refine List.any_eq_true.2 ⟨(k : Int), mem_plTo.2 ⟨k, by omega, ?_, rfl⟩, ?_⟩
        · rw [getD_of hi, ← undI_at x.nodes hbn hk]
          exact hu
        · unfold callQ
          rw [Int.toNat_natCast, decide_eq_true h14, decide_eq_true em.symm]
          rfl
    · intro hA i hi
      have hi := List.mem_range.1 hi
      refine List.all_eq_true.2 fun m hm => ?_
      unfold callsS callsTo at hm
      obtain ⟨q, hq, rfl⟩ := List.mem_map.1 hm
      have hq2 := List.mem_filter.1 hq
      have hqm := List.mem_range.1 hq2.1
      obtain ⟨y, hy, hc⟩ := List.any_eq_true.1 hq2.2
      obtain ⟨k, hk, hu, rfl⟩ := mem_plTo.1 hy
      have hb := right_bodies hs _ (mem_bodyQ (ms := x.mons) (List.getElem_mem hi))
      have hbn : (x.pros[i].body.toNat) < x.nodes.length := by omega
      rw [getD_of hi] at hu
      unfold callQ at hc
      rw [Int.toNat_natCast] at hc
      have hc2 := (Bool.and_eq_true _ _).mp hc
      have hkb : k < x.pros[i].body.toNat + 1 := by
        rcases Nat.lt_or_ge k (x.pros[i].body.toNat + 1) with g | g
        · exact g
        · rw [undL_high (right_low hs) (by omega)] at hu
          cases hu
      rw [usesP_in hi hqm]
      have h2 := List.all_eq_true.1 (hA _ (List.getElem_mem hi)) x.mons[q].name (mem_callN.2 ⟨(k : Int), mem_plTo.2 ⟨k, hkb, by rw [undI_at x.nodes hbn hkb]; exact hu, rfl⟩, ?_, ?_⟩)
      · exact h2
      · rw [Int.toNat_natCast]
        exact of_decide_eq_true hc2.1
      · rw [Int.toNat_natCast, of_decide_eq_true hc2.2, getD_of hqm]
  · rw [decide_eq_false h, Bool.false_and, Bool.false_and]
end Go.Proofs.YtpdpmnkonkpheaaGreat

namespace Go.Proofs.YtpdpmnkonkpheaaGreat
open Go.RowKit Go.Maps
open Go.WideMaps (keyOf_string_mk)

theorem key_string {key : Value} {kl : Lit} (h : keyOf Tryz.prog 9 key = some kl) : ∃ s : ByteArray, key = .string s ∧ kl = .string s.data.toList := by
  have hu := Tryz.underlying9
  cases key <;> simp [keyOf, hu, mapKey] at h
  obtain ⟨_, rfl⟩ := h
  exact ⟨_, rfl, rfl⟩
noncomputable abbrev rtElem : Value → Option (DataW Unit × List MemPlace) := plainElem (H := Unit) Tryz.prog 53
set_option maxRecDepth 100000 in
theorem wpList_next_rt {w : World} {ops : Array Oper} {rest : List Oper} {o : Oper} {a : Act} {Q : Exit → Act → World → Prop} (hg : o.guard = none) (it : Operand) (hop : o.op = Op.next it false)
    (b r n : Nat) (D : DataW Unit) (us cs : List ByteArray) (hD : ∀ s : ByteArray, D.atKey (.string s.data.toList) (.lit (.int .u8 0)) = .lit (.int .u8 (bitsR us cs s))) (left : Lit → Bool) (cnt : Nat)
    (hit : a.eval it = .pointer (some ⟨r, 0, none⟩)) (h : w.ranges Tryz.prog 9 rtElem b r n D left cnt)
    (hDone : (∀ kl, left kl = false) → wpList Tryz.prog ops Q rest (a.put o.dst (.tuple #[.bool false])) w)
    (hMore : ∀ (x : ByteArray) (w' : World) (cnt' : Nat), left (.string x.data.toList) = true → w'.ranges Tryz.prog 9 rtElem b r n D (fun z => left z && !z.sameKey (.string x.data.toList)) cnt' → cnt' < cnt →
      w.grownBy w' (some r) → w'.heap.size = w.heap.size → (Instr.entry (.pointer (some ⟨r, 0, none⟩))).run Tryz.prog w' = .ok (.tuple #[.string x, .int .u8 (bitsR us cs x)]) w' → wpList Tryz.prog ops Q rest (a.put o.dst (.tuple #[.bool true, .string x, .int .u8 (bitsR us cs x)])) w') :
    wpList Tryz.prog ops Q (o :: rest) a w :=
  wpList_next_ranges w hg it hop 9 lawR rtElem Value.string (Value.int .u8) (fun key kl hkey => by obtain ⟨x, rfl, _⟩ := key_string hkey; exact ⟨x, rfl⟩) (fun v y hv => by obtain ⟨c, rfl, _⟩ := plainElem_int_inv Tryz.underlying53 hv; exact ⟨c, rfl⟩)
    b r n D left cnt hit h (fun _ hl => hDone hl) (fun x c kl y w' cnt' hkey hlk hv hat hrg hlt hgr hsz hen => by
      obtain ⟨x', ex, rfl⟩ := key_string hkey
      cases ex
      obtain ⟨c', ec, rfl, _⟩ := plainElem_int_inv Tryz.underlying53 hv
      cases ec
      have e := hat (.lit (.int .u8 0))
      rw [hD x] at e
      have e2 : bitsR us cs x = c := by
        injection e with e
        injection e
      subst e2
      exact hMore x w' cnt' hlk hrg hlt hgr hsz hen)
/-- While rights are gone through: those that are not kept are still to come. -/
def GmR (w : World) (nv mv pv : Value) (b r n : Nat) (D : DataW Unit) (us cs : List ByteArray) (wr : World) : Prop :=
  ∃ left cnt, wr.ranges Tryz.prog 9 rtElem b r n D left cnt ∧ Hid (GrZ w nv mv pv wr) ∧ Hid (∀ s : ByteArray, bitsR us cs s = 2 → left (.string s.data.toList) = true)
def GnR (w : World) (nv mv pv : Value) (ns : List Nd) (ps : List Pr) (iv : Value) (wr : World) : Prop := ∃ i : Nat, i ≤ ps.length ∧ iv = .int .i64 i ∧ Hid (GrZ w nv mv pv wr) ∧ Hid (∀ p ∈ ps.take i, keptP ns p = true)
theorem kept_iff {ns : List Nd} {p : Pr} {cs : List ByteArray} (h : callN ns (plTo (undI ns p.body.toNat) (p.body.toNat + 1)) = cs) : keptP ns p = true ↔ ∀ s, bitsR p.uses cs s ≠ 2 := by
  unfold keptP
  rw [h, List.all_eq_true]
  constructor
  · intro hA s hb
    unfold bitsR at hb
    cases hc : memB cs s with
    | false =>
      rw [hc, if_neg (by decide : ¬ false = true)] at hb
      split at hb <;> omega
    | true =>
      rw [hA s (memB_iff.1 hc), hc] at hb
      simp at hb
  · intro hA s hs
    cases hu : memB p.uses s with
    | true => rfl
    | false => exact absurd (by unfold bitsR; rw [hu, memB_iff.2 hs]; rfl) (hA s)

theorem GrZ.iter {w z z' : World} {nv mv pv : Value} {r : Nat} (h : GrZ w nv mv pv z) (hg : z.grownBy z' (some r)) (hr : w.heap.size < r) (hl : r ≤ z.heap.size) : GrZ w nv mv pv z' := by
  have hb := But.grown hg hl
  have hlt := h.bp.lt
  exact ⟨⟨(hb.cell (p := ⟨w.heap.size, 0, none⟩) hlt (by show w.heap.size ≠ r; omega)).trans h.bp.c0, (hb.cell (p := ⟨w.heap.size, 1, none⟩) hlt (by show w.heap.size ≠ r; omega)).trans h.bp.c1, (hb.cell (p := ⟨w.heap.size, 2, none⟩) hlt (by show w.heap.size ≠ r; omega)).trans h.bp.c2, Nat.lt_of_lt_of_le hlt hb.bel.size⟩, rgrown_below h.bel hg h.bel.size (Nat.le_of_lt hr)⟩

set_option maxRecDepth 100000 in
set_option maxHeartbeats 4000000 in
theorem implGranted_any (nv mv pv : Value) (x : Pg) (w : World) (hN : NdsAt w nv x.nodes) (hM : MosAt w mv x.mons) (hP : PrsAt w pv x.pros) (hR : NdsRoom w nv x.nodes.length) (hF : PgFit x) :
    Calls Tryz.prog 7 #[.agg #[nv, mv, pv]] w fun e w' => e = .returned (.bool (grantI x)) ∧ Below w.heap.size w w' := by
  have hb1 : Below w.heap.size w (w.alloc (.cells #[nv, mv, pv] 33)) := (Below.refl _ _).alloc (Nat.le_refl _) _
  have HX := hide (Boxed.made w nv mv pv 33)
  have HB := hide hb1
  have HP := hide hP
  have hMs : SlV mv := by obtain ⟨a, c, e, _⟩ := hM; exact ⟨_, _, _, e⟩
  have CS := fun z (h : Below w.heap.size w z) => hide (implScope_any nv mv pv x z (hN.stays h) (hM.stays h) (hP.stays h) (hR.stays h) hF)
  have CR := fun z (h : Below w.heap.size w z) hT uv vv nm bd xs hB hu hv hl hs => hide (rightsBoth_any nv mv pv uv vv x.nodes nm bd xs z (hN.stays h) hMs hP.sl (hR.stays h) hT hB hu hv hl hs)
  have hpl := hF.len.pl
  have HF := hide hF
  obtain ⟨no, nc, rfl, _⟩ := hN
  obtain ⟨mo, mc, rfl, _⟩ := hM
  obtain ⟨po, pc, rfl, _⟩ := hP
  obtain ⟨R, eR⟩ : ∃ R, grantI x = R := ⟨_, rfl⟩
  have ER := hide eR
  rw [eR]
  obtain ⟨S, eS⟩ : ∃ S, implScope x = S := ⟨_, rfl⟩
  have ES := hide eS
  rw [eS] at CS
  obtain ⟨q, eq⟩ : ∃ q, x.pros.length = q := ⟨_, rfl⟩
  have EQ := hide eq
  obtain ⟨nn, enn⟩ : ∃ nn, x.nodes.length = nn := ⟨_, rfl⟩
  obtain ⟨mm, emm⟩ : ∃ mm, x.mons.length = mm := ⟨_, rfl⟩
  rw [eq] at hpl HP
  rw [eq, enn, emm] at CS CR HX HB ⊢
  clear eR eS eq enn emm hb1 hF hR hMs
  obtain ⟨c0, c1, c2, _⟩ := HX.out
  obtain ⟨W1, hW⟩ : ∃ W1, w.alloc (.cells #[.slice no nn nc, .slice mo mm mc, .slice po q pc] 33) = W1 := ⟨_, rfl⟩
  have HW := hide hW
  rw [hW] at HX HB c0 c1 c2
  clear hW
  by_cases hS : S = 0
  · subst hS
    have hip : implProgB x = true := by rw [← prog_eq]; exact scope_right (by rw [scope_eq]; exact ES.out)
    have HTO := hide (treeOk_of hip HF.out)
    have HBO := hide (bodyOk_of hip)
    have CR2 := fun z h => CR z h HTO.out
    clear CR
    go_enter Tryz.func7, Tryz.ntmps7
    go_wp2_with fail
    rw [HW.out]
    refine (unhide (CS _ HB.out)).mono ?_
    rintro e w3 ⟨rfl, hb3⟩
    have Z3 : Hid (GrZ w (.slice no nn nc) (.slice mo mm mc) (.slice po q pc) w3) := ⟨HX.out.stays hb3, HB.out.trans (hb3.mono HB.out.size)⟩
    clear hb3 c0 c1 c2 CS
    obtain ⟨c0, c1, c2, _⟩ := Z3.out.bp
    go_wp2
    go_loopw [13] (fun iv wr => GnR w (.slice no nn nc) (.slice mo mm mc) (.slice po q pc) x.nodes x.pros iv wr) (fun iv _ => q - (intOf iv).toNat)
    case atStart => exact ⟨0, by omega, rfl, Z3.out, fun p hp => by simp at hp⟩
    case round =>
      clear Z3 c0 c1 c2
      obtain ⟨i, hi, rfl, Z, HG⟩ := hrel
      rw [EQ.out] at hi
      by_cases hlt : i < q
      · have hlt' : (i : Int) < (q : Int) := by omega
        have hi0 : (0 : Int) ≤ (i : Int) := by omega
        have hix : i < x.pros.length := by rw [EQ.out]; exact hlt
        obtain ⟨po', pc', e5, hpc⟩ := HP.out.stays Z.out.bel
        injection e5 with e6 e7 e8
        subst e6
        obtain ⟨pa, uv, vv, rfl, _, hpx⟩ := hpc i hix
        obtain ⟨r, hr⟩ : ∃ r, pa.add (i * 4) = r := ⟨_, rfl⟩
        rw [hr] at hpx
        have hbo := HBO.out _ (mem_bodyP (ms := x.mons) (List.getElem_mem hix))
        have hpi := (HF.out.pros _ (List.getElem_mem hix)).uses
        have hul := (HF.out.len.pro _ (List.getElem_mem hix)).1
        have HT : Hid (x.pros.take (i + 1) = x.pros.take i ++ [x.pros[i]]) := List.take_succ_eq_append_getElem hix
        have HMem : Hid (x.pros[i] ∈ x.pros) := List.getElem_mem hix
        obtain ⟨p, ep⟩ : ∃ p, x.pros[i] = p := ⟨_, rfl⟩
        rw [ep] at hpx hbo hpi hul HT HMem
        have HU := hide hpx.uses
        have HV := hide hpx.vars
        obtain ⟨uo, uc, rfl, _⟩ := hpx.uses
        obtain ⟨vo, vc, rfl, _⟩ := hpx.vars
        obtain ⟨d0, d1, d2, d3, _⟩ := hpx
        obtain ⟨bd, ebd⟩ : ∃ bd : Nat, p.body = (bd : Int) := ⟨p.body.toNat, by have := hbo.lo; omega⟩
        have KI := hide (kept_iff (ns := x.nodes) (p := p) rfl)
        rw [ebd, Int.toNat_natCast] at KI
        rw [ebd] at hbo d3
        obtain ⟨cs, ecs⟩ : ∃ cs, callN x.nodes (plTo (undI x.nodes bd) (bd + 1)) = cs := ⟨_, rfl⟩
        have hb2 : Below wr.heap.size wr (wr.alloc (.cells #[.string p.name, .slice uo p.uses.length uc, .slice vo p.vars.length vc, .int .i64 bd] 49)) := (Below.refl _ _).alloc (Nat.le_refl _) _
        have Z2 := hide (Z.out.stays hb2)
        have CR3 := CR2 _ Z2.out.bel (.slice uo p.uses.length uc) (.slice vo p.vars.length vc) p.name bd p.uses hbo (HU.out.stays hb2) ⟨_, _, _, rfl⟩ hul hpi.2
        rw [ecs] at CR3 KI
        obtain ⟨c0, c1, c2, _⟩ := Z2.out.bp
        clear hpc e7 e8 ep ebd ecs hb2 hbo hpi hul
        go_wp2_with fail
        refine (unhide CR3).mono ?_
        rintro e z7 ⟨b, n7, rfl, hrt, hbb, hb7⟩
        have Z7 := hide (Z2.out.stays hb7)
        obtain ⟨D, hown, hD⟩ := hrt
        have HD := hide hD
        clear hb7 hD CR3 c0 c1 c2 d0 d1 d2 d3 Z2
        have HZ7 : Hid (w.heap.size < z7.heap.size) := Z7.out.bp.lt
        have HBL : Hid (b < z7.heap.size) := hown.lt
        obtain ⟨rr, err⟩ : ∃ rr, z7.heap.size = rr := ⟨_, rfl⟩
        have HRR := hide err
        go_wp2_with (at_range; refine wpList_range_own _ rfl _ 51 rfl 9 53 lawR Tryz.underlying51 _ b n7 D rfl hown ?_; intro w0 hrg0 hg0 hs0)
        go_frame
        rw [err] at hrg0 ⊢
        have Z0 : Hid (GrZ w (.slice no nn nc) (.slice mo mm mc) (.slice (some pa) q pc) w0) := Z7.out.stays ((Below.refl _ _).grown hg0 (Nat.le_refl _) (fun j hj => by cases hj))
        have L0 : Hid (rr ≤ w0.heap.size) := by show _ ≤ _; omega
        have A0 : Hid (∀ s : ByteArray, bitsR p.uses cs s = 2 → Maps.has D (.string s.data.toList) = true) := fun s hs => by
          cases e : Maps.has D (.string s.data.toList) with
          | true => rfl
          | false =>
            have h1 := HD.out s
            rw [atKey_of_not_has e, hs] at h1
            injection h1 with h1
            injection h1 with _ h1
            omega
        clear err hown hg0 hs0
        go_loopw [6] (fun _ wr => GmR w (.slice no nn nc) (.slice mo mm mc) (.slice (some pa) q pc) b rr n7 D p.uses cs wr) (fun _ wr => wr.rangeLeft b rr)
        case atStart => exact ⟨_, _, hrg0, Z0.out, A0.out⟩
        case round =>
          clear Z0 A0 L0 hrg0
          obtain ⟨left, cnt, hrg, ZI, AI⟩ := hrel
          have HRG := hide hrg
          clear hrg
          go_wp2_with (at_next; refine wpList_next_rt rfl _ rfl b rr n7 D p.uses cs HD.out left cnt rfl HRG.out ?_ ?_)
          · intro hl0
            have HKP : Hid (keptP x.nodes p = true) := KI.out.2 fun s hs => by
              have := AI.out s hs
              rw [hl0] at this
              cases this
            go_wp2
            go_roundw
            case rel =>
              refine ⟨i + 1, by rw [EQ.out]; omega, by go_num, ZI.out, fun p' hp' => ?_⟩
              rw [HT.out] at hp'
              rcases List.mem_append.1 hp' with h | h
              · exact HG.out p' h
              · rw [List.mem_singleton.1 h]; exact HKP.out
            case measure => simp [intOf]; omega
          · intro y w1 cnt1 hly hrg1 hlt1 hg1 hs1 hen
            have HRG1 := hide hrg1
            have Z1 := hide (ZI.out.iter hg1 (by rw [← HRR.out]; exact HZ7.out) (Nat.le_of_lt HRG.out.lt))
            have hcs := bitsR_cases p.uses cs y
            obtain ⟨c, ec⟩ : ∃ c, bitsR p.uses cs y = c := ⟨_, rfl⟩
            have EC := hide ec
            rw [ec] at hen hcs ⊢
            clear ec hrg1 hg1 hs1 hly
            have CK := fun z => hide (isKept_any c z hcs)
            by_cases h2 : c = 2
            · subst h2
              have eK : keptR 2 = false := rfl
              rw [eK] at CK
              have eR2 : R = false := by
                rw [← ER.out, grantI, ES.out, decide_eq_true rfl, Bool.true_and]
                rw [Bool.eq_false_iff]
                intro h
                exact KI.out.1 (List.all_eq_true.1 h p HMem.out) y EC.out
              subst eR2
              clear hcs eK
              go_wp2_with (go_at_call 20; refine (unhide (CK _)).mono ?_; rintro e z ⟨rfl, rfl⟩)
              go_ret
              exact ⟨rfl, Z1.out.bel⟩
            · have eK : keptR c = true := decide_eq_true h2
              rw [eK] at CK
              have A1 : Hid (∀ s : ByteArray, bitsR p.uses cs s = 2 → (left (.string s.data.toList) && !(Lit.string s.data.toList).sameKey (.string y.data.toList)) = true) := fun s hs => by
                have hne : s ≠ y := fun e => h2 (by rw [← EC.out, ← e]; exact hs)
                rw [AI.out s hs, sameKey_ne (rlit_ne hne)]
                rfl
              have HL1 := hide hlt1
              clear hcs eK h2 hlt1
              go_wp2_with (go_at_call 20; refine (unhide (CK _)).mono ?_; rintro e z ⟨rfl, rfl⟩)
              go_roundw
              case rel => exact ⟨_, cnt1, HRG1.out, Z1.out, A1.out⟩
              case measure => rw [HRG1.out.left_eq, HRG.out.left_eq]; exact HL1.out
      · have hlt' : ¬ (i : Int) < (q : Int) := by omega
        have eR2 : R = true := by
          have h := HG.out
          rw [List.take_of_length_le (by rw [EQ.out]; omega)] at h
          rw [← ER.out, grantI, ES.out, decide_eq_true rfl, Bool.true_and]
          exact List.all_eq_true.2 h
        subst eR2
        go_wp2
        go_ret
        exact ⟨rfl, Z.out.bel⟩
  · have hS0 : (S == 0) = false := by simpa using hS
    have eR2 : R = false := by rw [← ER.out, grantI, ES.out, decide_eq_false hS, Bool.false_and]
    subst eR2
    go_enter Tryz.func7, Tryz.ntmps7
    go_wp2_with fail
    rw [HW.out]
    refine (unhide (CS _ HB.out)).mono ?_
    rintro e w3 ⟨rfl, hb3⟩
    have HB3 := hide (HB.out.trans (hb3.mono HB.out.size))
    clear hb3
    go_wp2
    go_ret
    exact ⟨rfl, HB3.out⟩
end Go.Proofs.YtpdpmnkonkpheaaGreat

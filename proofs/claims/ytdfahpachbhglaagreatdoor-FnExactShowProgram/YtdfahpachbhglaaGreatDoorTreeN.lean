/-
  Walks: a right node, by the specification.
-/
import Derived.Test.YtdfahpachbhglaaGreatDoorImpD
import Derived.Test.YtdfahpachbhglaaGreatDoorNameW
namespace Go.Proofs.YtdfahpachbhglaaGreatDoor
open Go.RowKit

def namedQ (kd : Int) : Bool := decide (kd = 2 ∨ kd = 11 ∨ kd = 16 ∨ kd = 17 ∨ kd = 18 ∨ kd = 14)
/-- Is a node right, told its kids' kinds? -/
def nodeB (x : Nd) (l : List Int) : Bool :=
  decide x.kids.Nodup && (valueQ x.kind || stmtQ x.kind || decide (x.kind = 20)) && kidsB x.kind l
    && (if namedQ x.kind then nameB x.name else x.name.toList.isEmpty)
    && (if x.kind = 14 then nameB x.more && (x.into.toList.isEmpty || nameB x.into) else x.more.toList.isEmpty && x.into.toList.isEmpty)
    && (if x.kind = 1 then inZ 0 1000000 x.num else if x.kind = 3 then inZ 1 9 x.num else decide (x.num = 0))

/-- A node in a box of its own. -/
structure NodAt (B : Nat) (w : World) (x : Nd) (kv : Value) : Prop where
  c0 : w.cell? ⟨B, 0, none⟩ = some (.int .i64 x.kind)
  c1 : w.cell? ⟨B, 1, none⟩ = some (.int .i64 x.num)
  c2 : w.cell? ⟨B, 2, none⟩ = some (.string x.name)
  c3 : w.cell? ⟨B, 3, none⟩ = some (.string x.more)
  c4 : w.cell? ⟨B, 4, none⟩ = some (.string x.into)
  c5 : w.cell? ⟨B, 5, none⟩ = some kv
  lt : B < w.heap.size
  kids : IntsAt w kv x.kids
theorem NodAt.made (w : World) (x : Nd) (kv : Value) (t : TypeId) (h : IntsAt w kv x.kids) :
    NodAt w.heap.size (w.alloc (.cells #[.int .i64 x.kind, .int .i64 x.num, .string x.name, .string x.more, .string x.into, kv] t)) x kv := by
  refine ⟨?_, ?_, ?_, ?_, ?_, ?_, ?_, h.stays ((Below.refl _ _).alloc (Nat.le_refl _) _)⟩
  · rw [World.cell?_alloc_new]; rfl
  · rw [World.cell?_alloc_new]; rfl
  · rw [World.cell?_alloc_new]; rfl
  · rw [World.cell?_alloc_new]; rfl
  · rw [World.cell?_alloc_new]; rfl
  · rw [World.cell?_alloc_new]; rfl
  · simp
theorem NodAt.stays {B : Nat} {w w' : World} {x : Nd} {kv : Value} (h : NodAt B w x kv) (hb : Below w.heap.size w w') : NodAt B w' x kv :=
  ⟨(hb.cell (p := ⟨B, 0, none⟩) h.lt).trans h.c0, (hb.cell (p := ⟨B, 1, none⟩) h.lt).trans h.c1, (hb.cell (p := ⟨B, 2, none⟩) h.lt).trans h.c2,
    (hb.cell (p := ⟨B, 3, none⟩) h.lt).trans h.c3, (hb.cell (p := ⟨B, 4, none⟩) h.lt).trans h.c4, (hb.cell (p := ⟨B, 5, none⟩) h.lt).trans h.c5,
    Nat.lt_of_lt_of_le h.lt hb.size, h.kids.stays hb⟩

def NodR (W : World) (ks : List Int) (m : Nat) (iv : Value) (wr : World) : Prop :=
  ∃ i : Nat, i ≤ m ∧ iv = .int .i64 i ∧ Hid (Below W.heap.size W wr) ∧ Hid (∀ a b : Nat, b < a → a < i → ks[b]? ≠ ks[a]?)
def NodI (W : World) (ks : List Int) (i : Nat) (iv : Value) (wr : World) : Prop :=
  ∃ j : Nat, j ≤ i ∧ iv = .int .i64 j ∧ Hid (Below W.heap.size W wr) ∧ Hid (∀ b : Nat, b < j → ks[b]? ≠ ks[i]?)

set_option maxRecDepth 100000 in
set_option maxHeartbeats 8000000 in
theorem specNodeOk_in (nv mv pv : Value) (ns : List Nd) (k : Nat) (w : World) (hN : NdsAt w nv ns) (hk : k < ns.length) (hl : ns.length ≤ 1048576) (hkl : ns[k].kids.length ≤ 1048576)
    (hs1 : ns[k].name.size ≤ 1048576) (hs2 : ns[k].more.size ≤ 1048576) (hs3 : ns[k].into.size ≤ 1048576) :
    Calls Tryz.prog 53 #[.agg #[nv, mv, pv], .int .i64 (k : Int)] w fun e w' => e = .returned (.bool (nodeB ns[k] (kinds ns k))) ∧ Below w.heap.size w w' := by
  have hb1 : Below w.heap.size w (w.alloc (.cells #[nv, mv, pv] 34)) := (Below.refl _ _).alloc (Nat.le_refl _) _
  have HN := hide (hN.stays hb1)
  have HX := hide (Boxed.made w nv mv pv 34)
  obtain ⟨a, c, p, kv, rfl, hpa, hpb, hcell⟩ := HN.out.node k hk
  obtain ⟨d0, d1, d2, d3, d4, d5, hkids⟩ := hcell
  have HD := hide (NodAt.made _ ns[k] kv 78 hkids)
  have HB : Hid (Below w.heap.size w ((w.alloc (.cells #[.slice (some a) ns.length c, mv, pv] 34)).alloc (.cells #[.int .i64 ns[k].kind, .int .i64 ns[k].num, .string ns[k].name, .string ns[k].more, .string ns[k].into, kv] 78))) :=
    hb1.alloc hb1.size _
  have HN2 := hide (HN.out.stays ((Below.refl _ _).alloc (Nat.le_refl _) (.cells #[.int .i64 ns[k].kind, .int .i64 ns[k].num, .string ns[k].name, .string ns[k].more, .string ns[k].into, kv] 78)))
  have HX2 := hide (HX.out.stays ((Below.refl _ _).alloc (Nat.le_refl _) (.cells #[.int .i64 ns[k].kind, .int .i64 ns[k].num, .string ns[k].name, .string ns[k].more, .string ns[k].into, kv] 78)))
  have HH : Hid ((w.alloc (.cells #[.slice (some a) ns.length c, mv, pv] 34)).heap.size = w.heap.size + 1) := by show _ = _; simp
  rw [HH.out] at HD
  obtain ⟨bo, cb, rfl, _⟩ := hkids
  have CK := fun w (h : NdsAt w (.slice (some a) ns.length c) ns) => hide (l05Kids_any (.slice (some a) ns.length c) mv pv ns k w h hk hl hkl)
  have hi0 : (0 : Int) ≤ (k : Int) := by omega
  have hi1 : (k : Int) < (ns.length : Int) := by omega
  obtain ⟨l, el⟩ : ∃ l, kinds ns k = l := ⟨_, rfl⟩
  rw [el] at CK ⊢
  obtain ⟨x, ex⟩ : ∃ x, ns[k] = x := ⟨_, rfl⟩
  rw [ex] at CK HD HB HN2 HX2 d0 d1 d2 d3 d4 d5 hkl hs1 hs2 hs3 ⊢
  obtain ⟨kd, num, nm, mo, it, ks⟩ := x
  dsimp only at CK HD HB HN2 HX2 d0 d1 d2 d3 d4 d5 hkl hs1 hs2 hs3
  clear ex el hN hb1 HN HX HH hpb
  have C := fun w => hide (l01In_gen (k : Int) 0 ((ns.length : Int) - 1) w)
  have e1 : inZ 0 ((ns.length : Int) - 1) (k : Int) = true := inZ_yes.2 (by omega)
  rw [e1] at C
  clear e1
  go_enter Tryz.func53, Tryz.ntmps53
  go_wp2_with (go_at_call 30; refine (unhide (C _)).mono ?_; rintro e w1 ⟨rfl, rfl⟩)
  clear C d0 d1 d2 d3 d4 d5
  obtain ⟨W2, hW⟩ : ∃ W2, (w.alloc (.cells #[.slice (some a) ns.length c, mv, pv] 34)).alloc (.cells #[.int .i64 kd, .int .i64 num, .string nm, .string mo, .string it, .slice bo ks.length cb] 78) = W2 := ⟨_, rfl⟩
  rw [hW] at HD HB HN2 HX2 ⊢
  clear hW
  obtain ⟨m, em⟩ : ∃ m, ks.length = m := ⟨_, rfl⟩
  have EM := hide em
  rw [em] at HD hkl ⊢
  clear em
  go_loopw [6] (NodR W2 ks m) (fun iv _ => m - (intOf iv).toNat)
  case atStart => exact ⟨0, by omega, rfl, Below.refl _ _, fun a b _ h => absurd h (Nat.not_lt_zero a)⟩
  case round =>
    obtain ⟨i, hi, rfl, HB2, HA⟩ := hrel
    obtain ⟨g0, g1, g2, g3, g4, g5, _, _⟩ := HD.out.stays HB2.out
    by_cases hlt : i < m
    · have hlt' : (i : Int) < (m : Int) := by omega
      go_wp2
      go_loopw [7] (NodI W2 ks i) (fun iv _ => i - (intOf iv).toNat)
      case atStart => exact ⟨0, by omega, rfl, HB2.out, fun b h => absurd h (Nat.not_lt_zero b)⟩
      case round =>
        obtain ⟨j, hj, rfl, HB3, HA3⟩ := hrel
        obtain ⟨f0, f1, f2, f3, f4, f5, _, hk5⟩ := HD.out.stays HB3.out
        by_cases hlt2 : j < i
        · have hlt2' : (j : Int) < (i : Int) := by omega
          obtain ⟨bo', cb', e5, hc5⟩ := hk5
          injection e5 with e6 e7 e8
          subst e6
          have hki : i < ks.length := by rw [EM.out]; exact hlt
          have hkj : j < ks.length := by omega
          obtain ⟨b, rfl, _, hxi⟩ := hc5 i hki
          obtain ⟨b', e9, _, hxj⟩ := hc5 j hkj
          have e10 : b' = b := (Option.some.inj e9).symm
          subst e10
          clear hc5 e7 e8 e9
          have EI : Hid (ks[i]? = some ks[i]) := List.getElem?_eq_getElem hki
          have EJ : Hid (ks[j]? = some ks[j]) := List.getElem?_eq_getElem hkj
          obtain ⟨y, ey⟩ : ∃ y, ks[i] = y := ⟨_, rfl⟩
          obtain ⟨z, ez⟩ : ∃ z, ks[j] = z := ⟨_, rfl⟩
          rw [ey] at hxi EI
          rw [ez] at hxj EJ
          clear ey ez
          have hi2 : (0 : Int) ≤ (i : Int) := by omega
          have hj2 : (0 : Int) ≤ (j : Int) := by omega
          have hj3 : (j : Int) < (m : Int) := by omega
          by_cases hyz : y = z
          · have HF : Hid (nodeB ⟨kd, num, nm, mo, it, ks⟩ l = false) := by
              have : ¬ ks.Nodup := fun h => by
                have := List.pairwise_iff_getElem.1 h j i hkj hki hlt2
                rw [List.getElem?_eq_getElem hki] at EI
                rw [List.getElem?_eq_getElem hkj] at EJ
                exact this ((Option.some.inj EJ).trans (hyz.symm.trans (Option.some.inj EI).symm))
              show _ = _
              simp [nodeB, this]
            subst hyz
            go_wp2
            go_region
            all_goals go_wp2
            all_goals go_ret
            all_goals exact ⟨by rw [HF.out]; rfl, HB.out.trans (HB3.out.drew.mono HB.out.size)⟩
          · go_wp2
            go_region
            all_goals go_wp2
            go_roundw
            case rel => exact ⟨j + 1, by omega, by go_num, HB3.out.drew, fun b hb => by
              rcases Nat.lt_succ_iff_lt_or_eq.1 hb with h | h
              · exact HA3.out b h
              · subst h; rw [EI.out, EJ.out]; exact fun h => hyz (Option.some.inj h).symm⟩
            case measure => simp [intOf]; omega
        · have hlt2' : ¬ (j : Int) < (i : Int) := by omega
          go_wp2
          go_roundw
          case rel => exact ⟨i + 1, by omega, by go_num, HB3.out, fun a b h1 h2 => by
            rcases Nat.lt_succ_iff_lt_or_eq.1 h2 with h | h
            · exact HA.out a b h1 h
            · subst h; exact HA3.out b (by omega)⟩
          case measure => simp [intOf]; omega
    · have hlt' : ¬ (i : Int) < (m : Int) := by omega
      have HU : Hid (ks.Nodup) := List.pairwise_iff_getElem.2 (fun b a h1 h2 h3 h4 => HA.out a b h3 (by rw [EM.out] at h2; omega) (by rw [List.getElem?_eq_getElem h1, List.getElem?_eq_getElem h2, h4]))
      have Z := hide (HB.out.trans (HB2.out.mono HB.out.size))
      have N := hide (HN2.out.stays HB2.out)
      have D := hide (HD.out.stays HB2.out)
      obtain ⟨c0, c1, c2, _⟩ := HX2.out.stays HB2.out
      have CV := fun w => hide (l05Value_any kd w)
      have CS := fun w => hide (l05Statement_any kd w)
      obtain ⟨vq, ev⟩ : ∃ b, valueQ kd = b := ⟨_, rfl⟩
      obtain ⟨sq, es⟩ : ∃ b, stmtQ kd = b := ⟨_, rfl⟩
      rw [ev] at CV
      rw [es] at CS
      have EV := hide ev
      have ES := hide es
      clear ev es
      obtain ⟨kl, ekl⟩ : ∃ b, kidsB kd l = b := ⟨_, rfl⟩
      rw [ekl] at CK
      clear HA HB HB2 HD HN2 HX2 hlt hi
      by_cases u0 : kd = 1 ∨ kd = 3 ∨ kd = 4 ∨ kd = 5 ∨ kd = 12 ∨ kd = 13 ∨ kd = 15 ∨ kd = 19 ∨ kd = 20
      · have hv : (valueQ kd || stmtQ kd || decide (kd = 20)) = true := by rcases u0 with rfl | rfl | rfl | rfl | rfl | rfl | rfl | rfl | rfl <;> rfl
        have hq : namedQ kd = false := by rcases u0 with rfl | rfl | rfl | rfl | rfl | rfl | rfl | rfl | rfl <;> rfl
        have h14 : ¬ kd = 14 := by omega
        cases kl with
        | false =>
          have HF : Hid (nodeB ⟨kd, num, nm, mo, it, ks⟩ l = false) := by show _ = _; simp [nodeB, ekl]
          clear hv hq h14 ekl
          rcases u0 with rfl | rfl | rfl | rfl | rfl | rfl | rfl | rfl | rfl
          all_goals (
  (first | (have ev : vq = true := EV.out.symm; subst ev) | (have ev : vq = false := EV.out.symm; subst ev));
  (first | (have ev : sq = true := ES.out.symm; subst ev) | (have ev : sq = false := ES.out.symm; subst ev));
  (go_wp2_with (first
    | (go_at_call 73; refine (unhide (CV _)).mono ?_; rintro e wv ⟨rfl, rfl⟩)
    | (go_at_call 74; refine (unhide (CS _)).mono ?_; rintro e ws ⟨rfl, rfl⟩)
    | (go_at_call 75; refine (unhide (CK _ N.out)).mono ?_; rintro e wk ⟨rfl, hbk⟩; have Z := hide (Z.out.trans (hbk.mono Z.out.size)); have D := hide (D.out.stays hbk); obtain ⟨g0, g1, g2, g3, g4, g5, _, _⟩ := D.out; clear hbk)
    | (go_at_call 51; refine Calls.mono (specNameOk_any _ _ ?_) ?_; (first | exact hs1 | exact hs2 | exact hs3); rintro e wk ⟨rfl, hbk⟩; have Z := hide (Z.out.trans (hbk.mono Z.out.size)); have D := hide (D.out.stays hbk); obtain ⟨g0, g1, g2, g3, g4, g5, _, _⟩ := D.out; clear hbk)
    | (go_at_call 30; refine (l01In_gen _ _ _ _).mono ?_; rintro e wv ⟨rfl, rfl⟩)));
  go_ret;
  exact ⟨by rw [HF.out]; rfl, Z.out⟩)
        | true =>
          cases h1 : nm.toList.isEmpty with
          | false =>
            have HF : Hid (nodeB ⟨kd, num, nm, mo, it, ks⟩ l = false) := by show _ = _; simp [nodeB, hq, h1]
            clear hv hq h14 ekl
            rcases u0 with rfl | rfl | rfl | rfl | rfl | rfl | rfl | rfl | rfl
            all_goals (
  (first | (have ev : vq = true := EV.out.symm; subst ev) | (have ev : vq = false := EV.out.symm; subst ev));
  (first | (have ev : sq = true := ES.out.symm; subst ev) | (have ev : sq = false := ES.out.symm; subst ev));
  (go_wp2_with (first
    | (go_at_call 73; refine (unhide (CV _)).mono ?_; rintro e wv ⟨rfl, rfl⟩)
    | (go_at_call 74; refine (unhide (CS _)).mono ?_; rintro e ws ⟨rfl, rfl⟩)
    | (go_at_call 75; refine (unhide (CK _ N.out)).mono ?_; rintro e wk ⟨rfl, hbk⟩; have Z := hide (Z.out.trans (hbk.mono Z.out.size)); have D := hide (D.out.stays hbk); obtain ⟨g0, g1, g2, g3, g4, g5, _, _⟩ := D.out; clear hbk)
    | (go_at_call 51; refine Calls.mono (specNameOk_any _ _ ?_) ?_; (first | exact hs1 | exact hs2 | exact hs3); rintro e wk ⟨rfl, hbk⟩; have Z := hide (Z.out.trans (hbk.mono Z.out.size)); have D := hide (D.out.stays hbk); obtain ⟨g0, g1, g2, g3, g4, g5, _, _⟩ := D.out; clear hbk)
    | (go_at_call 30; refine (l01In_gen _ _ _ _).mono ?_; rintro e wv ⟨rfl, rfl⟩)));
  go_ret;
  exact ⟨by rw [HF.out]; rfl, Z.out⟩)
          | true =>
            cases h2 : mo.toList.isEmpty with
            | false =>
              have HF : Hid (nodeB ⟨kd, num, nm, mo, it, ks⟩ l = false) := by show _ = _; simp [nodeB, h14, h2]
              clear hv hq h14 ekl
              rcases u0 with rfl | rfl | rfl | rfl | rfl | rfl | rfl | rfl | rfl
              all_goals (
  (first | (have ev : vq = true := EV.out.symm; subst ev) | (have ev : vq = false := EV.out.symm; subst ev));
  (first | (have ev : sq = true := ES.out.symm; subst ev) | (have ev : sq = false := ES.out.symm; subst ev));
  (go_wp2_with (first
    | (go_at_call 73; refine (unhide (CV _)).mono ?_; rintro e wv ⟨rfl, rfl⟩)
    | (go_at_call 74; refine (unhide (CS _)).mono ?_; rintro e ws ⟨rfl, rfl⟩)
    | (go_at_call 75; refine (unhide (CK _ N.out)).mono ?_; rintro e wk ⟨rfl, hbk⟩; have Z := hide (Z.out.trans (hbk.mono Z.out.size)); have D := hide (D.out.stays hbk); obtain ⟨g0, g1, g2, g3, g4, g5, _, _⟩ := D.out; clear hbk)
    | (go_at_call 51; refine Calls.mono (specNameOk_any _ _ ?_) ?_; (first | exact hs1 | exact hs2 | exact hs3); rintro e wk ⟨rfl, hbk⟩; have Z := hide (Z.out.trans (hbk.mono Z.out.size)); have D := hide (D.out.stays hbk); obtain ⟨g0, g1, g2, g3, g4, g5, _, _⟩ := D.out; clear hbk)
    | (go_at_call 30; refine (l01In_gen _ _ _ _).mono ?_; rintro e wv ⟨rfl, rfl⟩)));
  go_ret;
  exact ⟨by rw [HF.out]; rfl, Z.out⟩)
            | true =>
              cases h3 : it.toList.isEmpty with
              | false =>
                have HF : Hid (nodeB ⟨kd, num, nm, mo, it, ks⟩ l = false) := by show _ = _; simp [nodeB, h14, h3]
                clear hv hq h14 ekl
                rcases u0 with rfl | rfl | rfl | rfl | rfl | rfl | rfl | rfl | rfl
                all_goals (
  (first | (have ev : vq = true := EV.out.symm; subst ev) | (have ev : vq = false := EV.out.symm; subst ev));
  (first | (have ev : sq = true := ES.out.symm; subst ev) | (have ev : sq = false := ES.out.symm; subst ev));
  (go_wp2_with (first
    | (go_at_call 73; refine (unhide (CV _)).mono ?_; rintro e wv ⟨rfl, rfl⟩)
    | (go_at_call 74; refine (unhide (CS _)).mono ?_; rintro e ws ⟨rfl, rfl⟩)
    | (go_at_call 75; refine (unhide (CK _ N.out)).mono ?_; rintro e wk ⟨rfl, hbk⟩; have Z := hide (Z.out.trans (hbk.mono Z.out.size)); have D := hide (D.out.stays hbk); obtain ⟨g0, g1, g2, g3, g4, g5, _, _⟩ := D.out; clear hbk)
    | (go_at_call 51; refine Calls.mono (specNameOk_any _ _ ?_) ?_; (first | exact hs1 | exact hs2 | exact hs3); rintro e wk ⟨rfl, hbk⟩; have Z := hide (Z.out.trans (hbk.mono Z.out.size)); have D := hide (D.out.stays hbk); obtain ⟨g0, g1, g2, g3, g4, g5, _, _⟩ := D.out; clear hbk)
    | (go_at_call 30; refine (l01In_gen _ _ _ _).mono ?_; rintro e wv ⟨rfl, rfl⟩)));
  go_ret;
  exact ⟨by rw [HF.out]; rfl, Z.out⟩)
              | true =>
                have HF : Hid (nodeB ⟨kd, num, nm, mo, it, ks⟩ l = if kd = 1 then inZ 0 1000000 num else if kd = 3 then inZ 1 9 num else decide (num = 0)) := by
                  show _ = _
                  have : decide ks.Nodup = true := decide_eq_true HU.out
                  simp only [nodeB, this, hv, hq, ekl, h1, h2, h3, if_neg h14, Bool.and_self, Bool.true_and, Bool.false_eq_true, if_false]
                clear hv hq h14 ekl
                rcases u0 with rfl | rfl | rfl | rfl | rfl | rfl | rfl | rfl | rfl
                all_goals (
  (first | (have ev : vq = true := EV.out.symm; subst ev) | (have ev : vq = false := EV.out.symm; subst ev));
  (first | (have ev : sq = true := ES.out.symm; subst ev) | (have ev : sq = false := ES.out.symm; subst ev));
  (go_wp2_with (first
    | (go_at_call 73; refine (unhide (CV _)).mono ?_; rintro e wv ⟨rfl, rfl⟩)
    | (go_at_call 74; refine (unhide (CS _)).mono ?_; rintro e ws ⟨rfl, rfl⟩)
    | (go_at_call 75; refine (unhide (CK _ N.out)).mono ?_; rintro e wk ⟨rfl, hbk⟩; have Z := hide (Z.out.trans (hbk.mono Z.out.size)); have D := hide (D.out.stays hbk); obtain ⟨g0, g1, g2, g3, g4, g5, _, _⟩ := D.out; clear hbk)
    | (go_at_call 51; refine Calls.mono (specNameOk_any _ _ ?_) ?_; (first | exact hs1 | exact hs2 | exact hs3); rintro e wk ⟨rfl, hbk⟩; have Z := hide (Z.out.trans (hbk.mono Z.out.size)); have D := hide (D.out.stays hbk); obtain ⟨g0, g1, g2, g3, g4, g5, _, _⟩ := D.out; clear hbk)
    | (go_at_call 30; refine (l01In_gen _ _ _ _).mono ?_; rintro e wv ⟨rfl, rfl⟩)));
  go_ret;
  exact ⟨by rw [HF.out]; rfl, Z.out⟩)
      by_cases u1 : kd = 2 ∨ kd = 11 ∨ kd = 16 ∨ kd = 17 ∨ kd = 18
      · have hv : (valueQ kd || stmtQ kd || decide (kd = 20)) = true := by rcases u1 with rfl | rfl | rfl | rfl | rfl <;> rfl
        have hq : namedQ kd = true := by rcases u1 with rfl | rfl | rfl | rfl | rfl <;> rfl
        have h14 : ¬ kd = 14 := by omega
        have hk1 : ¬ kd = 1 := by omega
        have hk3 : ¬ kd = 3 := by omega
        clear u0
        cases kl with
        | false =>
          have HF : Hid (nodeB ⟨kd, num, nm, mo, it, ks⟩ l = false) := by show _ = _; simp [nodeB, ekl]
          clear hv hq h14 ekl hk1 hk3
          rcases u1 with rfl | rfl | rfl | rfl | rfl
          all_goals (
  (first | (have ev : vq = true := EV.out.symm; subst ev) | (have ev : vq = false := EV.out.symm; subst ev));
  (first | (have ev : sq = true := ES.out.symm; subst ev) | (have ev : sq = false := ES.out.symm; subst ev));
  (go_wp2_with (first
    | (go_at_call 73; refine (unhide (CV _)).mono ?_; rintro e wv ⟨rfl, rfl⟩)
    | (go_at_call 74; refine (unhide (CS _)).mono ?_; rintro e ws ⟨rfl, rfl⟩)
    | (go_at_call 75; refine (unhide (CK _ N.out)).mono ?_; rintro e wk ⟨rfl, hbk⟩; have Z := hide (Z.out.trans (hbk.mono Z.out.size)); have D := hide (D.out.stays hbk); obtain ⟨g0, g1, g2, g3, g4, g5, _, _⟩ := D.out; clear hbk)
    | (go_at_call 51; refine Calls.mono (specNameOk_any _ _ ?_) ?_; (first | exact hs1 | exact hs2 | exact hs3); rintro e wk ⟨rfl, hbk⟩; have Z := hide (Z.out.trans (hbk.mono Z.out.size)); have D := hide (D.out.stays hbk); obtain ⟨g0, g1, g2, g3, g4, g5, _, _⟩ := D.out; clear hbk)
    | (go_at_call 30; refine (l01In_gen _ _ _ _).mono ?_; rintro e wv ⟨rfl, rfl⟩)));
  go_ret;
  exact ⟨by rw [HF.out]; rfl, Z.out⟩)
        | true =>
          cases h1 : nameB nm with
          | false =>
            have HF : Hid (nodeB ⟨kd, num, nm, mo, it, ks⟩ l = false) := by show _ = _; simp [nodeB, hq, h1]
            clear hv hq h14 ekl hk1 hk3
            rcases u1 with rfl | rfl | rfl | rfl | rfl
            all_goals (
  (first | (have ev : vq = true := EV.out.symm; subst ev) | (have ev : vq = false := EV.out.symm; subst ev));
  (first | (have ev : sq = true := ES.out.symm; subst ev) | (have ev : sq = false := ES.out.symm; subst ev));
  (go_wp2_with (first
    | (go_at_call 73; refine (unhide (CV _)).mono ?_; rintro e wv ⟨rfl, rfl⟩)
    | (go_at_call 74; refine (unhide (CS _)).mono ?_; rintro e ws ⟨rfl, rfl⟩)
    | (go_at_call 75; refine (unhide (CK _ N.out)).mono ?_; rintro e wk ⟨rfl, hbk⟩; have Z := hide (Z.out.trans (hbk.mono Z.out.size)); have D := hide (D.out.stays hbk); obtain ⟨g0, g1, g2, g3, g4, g5, _, _⟩ := D.out; clear hbk)
    | (go_at_call 51; refine Calls.mono (specNameOk_any _ _ ?_) ?_; (first | exact hs1 | exact hs2 | exact hs3); rintro e wk ⟨rfl, hbk⟩; have Z := hide (Z.out.trans (hbk.mono Z.out.size)); have D := hide (D.out.stays hbk); obtain ⟨g0, g1, g2, g3, g4, g5, _, _⟩ := D.out; clear hbk)
    | (go_at_call 30; refine (l01In_gen _ _ _ _).mono ?_; rintro e wv ⟨rfl, rfl⟩)));
  go_ret;
  exact ⟨by rw [HF.out]; rfl, Z.out⟩)
          | true =>
            cases h2 : mo.toList.isEmpty with
            | false =>
              have HF : Hid (nodeB ⟨kd, num, nm, mo, it, ks⟩ l = false) := by show _ = _; simp [nodeB, h14, h2]
              clear hv hq h14 ekl hk1 hk3
              rcases u1 with rfl | rfl | rfl | rfl | rfl
              all_goals (
  (first | (have ev : vq = true := EV.out.symm; subst ev) | (have ev : vq = false := EV.out.symm; subst ev));
  (first | (have ev : sq = true := ES.out.symm; subst ev) | (have ev : sq = false := ES.out.symm; subst ev));
  (go_wp2_with (first
    | (go_at_call 73; refine (unhide (CV _)).mono ?_; rintro e wv ⟨rfl, rfl⟩)
    | (go_at_call 74; refine (unhide (CS _)).mono ?_; rintro e ws ⟨rfl, rfl⟩)
    | (go_at_call 75; refine (unhide (CK _ N.out)).mono ?_; rintro e wk ⟨rfl, hbk⟩; have Z := hide (Z.out.trans (hbk.mono Z.out.size)); have D := hide (D.out.stays hbk); obtain ⟨g0, g1, g2, g3, g4, g5, _, _⟩ := D.out; clear hbk)
    | (go_at_call 51; refine Calls.mono (specNameOk_any _ _ ?_) ?_; (first | exact hs1 | exact hs2 | exact hs3); rintro e wk ⟨rfl, hbk⟩; have Z := hide (Z.out.trans (hbk.mono Z.out.size)); have D := hide (D.out.stays hbk); obtain ⟨g0, g1, g2, g3, g4, g5, _, _⟩ := D.out; clear hbk)
    | (go_at_call 30; refine (l01In_gen _ _ _ _).mono ?_; rintro e wv ⟨rfl, rfl⟩)));
  go_ret;
  exact ⟨by rw [HF.out]; rfl, Z.out⟩)
            | true =>
              cases h3 : it.toList.isEmpty with
              | false =>
                have HF : Hid (nodeB ⟨kd, num, nm, mo, it, ks⟩ l = false) := by show _ = _; simp [nodeB, h14, h3]
                clear hv hq h14 ekl hk1 hk3
                rcases u1 with rfl | rfl | rfl | rfl | rfl
                all_goals (
  (first | (have ev : vq = true := EV.out.symm; subst ev) | (have ev : vq = false := EV.out.symm; subst ev));
  (first | (have ev : sq = true := ES.out.symm; subst ev) | (have ev : sq = false := ES.out.symm; subst ev));
  (go_wp2_with (first
    | (go_at_call 73; refine (unhide (CV _)).mono ?_; rintro e wv ⟨rfl, rfl⟩)
    | (go_at_call 74; refine (unhide (CS _)).mono ?_; rintro e ws ⟨rfl, rfl⟩)
    | (go_at_call 75; refine (unhide (CK _ N.out)).mono ?_; rintro e wk ⟨rfl, hbk⟩; have Z := hide (Z.out.trans (hbk.mono Z.out.size)); have D := hide (D.out.stays hbk); obtain ⟨g0, g1, g2, g3, g4, g5, _, _⟩ := D.out; clear hbk)
    | (go_at_call 51; refine Calls.mono (specNameOk_any _ _ ?_) ?_; (first | exact hs1 | exact hs2 | exact hs3); rintro e wk ⟨rfl, hbk⟩; have Z := hide (Z.out.trans (hbk.mono Z.out.size)); have D := hide (D.out.stays hbk); obtain ⟨g0, g1, g2, g3, g4, g5, _, _⟩ := D.out; clear hbk)
    | (go_at_call 30; refine (l01In_gen _ _ _ _).mono ?_; rintro e wv ⟨rfl, rfl⟩)));
  go_ret;
  exact ⟨by rw [HF.out]; rfl, Z.out⟩)
              | true =>
                have HF : Hid (nodeB ⟨kd, num, nm, mo, it, ks⟩ l = decide (num = 0)) := by
                  show _ = _
                  have : decide ks.Nodup = true := decide_eq_true HU.out
                  simp only [nodeB, this, hv, hq, ekl, h1, h2, h3, if_neg h14, if_neg hk1, if_neg hk3, Bool.and_self, Bool.true_and, if_true]
                clear hv hq h14 ekl hk1 hk3
                rcases u1 with rfl | rfl | rfl | rfl | rfl
                all_goals (
  (first | (have ev : vq = true := EV.out.symm; subst ev) | (have ev : vq = false := EV.out.symm; subst ev));
  (first | (have ev : sq = true := ES.out.symm; subst ev) | (have ev : sq = false := ES.out.symm; subst ev));
  (go_wp2_with (first
    | (go_at_call 73; refine (unhide (CV _)).mono ?_; rintro e wv ⟨rfl, rfl⟩)
    | (go_at_call 74; refine (unhide (CS _)).mono ?_; rintro e ws ⟨rfl, rfl⟩)
    | (go_at_call 75; refine (unhide (CK _ N.out)).mono ?_; rintro e wk ⟨rfl, hbk⟩; have Z := hide (Z.out.trans (hbk.mono Z.out.size)); have D := hide (D.out.stays hbk); obtain ⟨g0, g1, g2, g3, g4, g5, _, _⟩ := D.out; clear hbk)
    | (go_at_call 51; refine Calls.mono (specNameOk_any _ _ ?_) ?_; (first | exact hs1 | exact hs2 | exact hs3); rintro e wk ⟨rfl, hbk⟩; have Z := hide (Z.out.trans (hbk.mono Z.out.size)); have D := hide (D.out.stays hbk); obtain ⟨g0, g1, g2, g3, g4, g5, _, _⟩ := D.out; clear hbk)
    | (go_at_call 30; refine (l01In_gen _ _ _ _).mono ?_; rintro e wv ⟨rfl, rfl⟩)));
  go_ret;
  exact ⟨by rw [HF.out]; rfl, Z.out⟩)
      by_cases u2 : kd = 14
      · subst u2
        have hv : (valueQ 14 || stmtQ 14 || decide ((14 : Int) = 20)) = true := rfl
        have hq : namedQ 14 = true := rfl
        clear u0 u1
        cases kl with
        | false =>
          have HF : Hid (nodeB ⟨14, num, nm, mo, it, ks⟩ l = false) := by show _ = _; simp [nodeB, ekl]
          clear hv hq ekl
          (
  (first | (have ev : vq = true := EV.out.symm; subst ev) | (have ev : vq = false := EV.out.symm; subst ev));
  (first | (have ev : sq = true := ES.out.symm; subst ev) | (have ev : sq = false := ES.out.symm; subst ev));
  (go_wp2_with (first
    | (go_at_call 73; refine (unhide (CV _)).mono ?_; rintro e wv ⟨rfl, rfl⟩)
    | (go_at_call 74; refine (unhide (CS _)).mono ?_; rintro e ws ⟨rfl, rfl⟩)
    | (go_at_call 75; refine (unhide (CK _ N.out)).mono ?_; rintro e wk ⟨rfl, hbk⟩; have Z := hide (Z.out.trans (hbk.mono Z.out.size)); have D := hide (D.out.stays hbk); obtain ⟨g0, g1, g2, g3, g4, g5, _, _⟩ := D.out; clear hbk)
    | (go_at_call 51; refine Calls.mono (specNameOk_any _ _ ?_) ?_; (first | exact hs1 | exact hs2 | exact hs3); rintro e wk ⟨rfl, hbk⟩; have Z := hide (Z.out.trans (hbk.mono Z.out.size)); have D := hide (D.out.stays hbk); obtain ⟨g0, g1, g2, g3, g4, g5, _, _⟩ := D.out; clear hbk)
    | (go_at_call 30; refine (l01In_gen _ _ _ _).mono ?_; rintro e wv ⟨rfl, rfl⟩)));
  go_ret;
  exact ⟨by rw [HF.out]; rfl, Z.out⟩)
        | true =>
          cases h1 : nameB nm with
          | false =>
            have HF : Hid (nodeB ⟨14, num, nm, mo, it, ks⟩ l = false) := by show _ = _; simp [nodeB, hq, h1]
            clear hv hq ekl
            (
  (first | (have ev : vq = true := EV.out.symm; subst ev) | (have ev : vq = false := EV.out.symm; subst ev));
  (first | (have ev : sq = true := ES.out.symm; subst ev) | (have ev : sq = false := ES.out.symm; subst ev));
  (go_wp2_with (first
    | (go_at_call 73; refine (unhide (CV _)).mono ?_; rintro e wv ⟨rfl, rfl⟩)
    | (go_at_call 74; refine (unhide (CS _)).mono ?_; rintro e ws ⟨rfl, rfl⟩)
    | (go_at_call 75; refine (unhide (CK _ N.out)).mono ?_; rintro e wk ⟨rfl, hbk⟩; have Z := hide (Z.out.trans (hbk.mono Z.out.size)); have D := hide (D.out.stays hbk); obtain ⟨g0, g1, g2, g3, g4, g5, _, _⟩ := D.out; clear hbk)
    | (go_at_call 51; refine Calls.mono (specNameOk_any _ _ ?_) ?_; (first | exact hs1 | exact hs2 | exact hs3); rintro e wk ⟨rfl, hbk⟩; have Z := hide (Z.out.trans (hbk.mono Z.out.size)); have D := hide (D.out.stays hbk); obtain ⟨g0, g1, g2, g3, g4, g5, _, _⟩ := D.out; clear hbk)
    | (go_at_call 30; refine (l01In_gen _ _ _ _).mono ?_; rintro e wv ⟨rfl, rfl⟩)));
  go_ret;
  exact ⟨by rw [HF.out]; rfl, Z.out⟩)
          | true =>
            cases h2 : nameB mo with
            | false =>
              have HF : Hid (nodeB ⟨14, num, nm, mo, it, ks⟩ l = false) := by show _ = _; simp [nodeB, h2]
              clear hv hq ekl
              (
  (first | (have ev : vq = true := EV.out.symm; subst ev) | (have ev : vq = false := EV.out.symm; subst ev));
  (first | (have ev : sq = true := ES.out.symm; subst ev) | (have ev : sq = false := ES.out.symm; subst ev));
  (go_wp2_with (first
    | (go_at_call 73; refine (unhide (CV _)).mono ?_; rintro e wv ⟨rfl, rfl⟩)
    | (go_at_call 74; refine (unhide (CS _)).mono ?_; rintro e ws ⟨rfl, rfl⟩)
    | (go_at_call 75; refine (unhide (CK _ N.out)).mono ?_; rintro e wk ⟨rfl, hbk⟩; have Z := hide (Z.out.trans (hbk.mono Z.out.size)); have D := hide (D.out.stays hbk); obtain ⟨g0, g1, g2, g3, g4, g5, _, _⟩ := D.out; clear hbk)
    | (go_at_call 51; refine Calls.mono (specNameOk_any _ _ ?_) ?_; (first | exact hs1 | exact hs2 | exact hs3); rintro e wk ⟨rfl, hbk⟩; have Z := hide (Z.out.trans (hbk.mono Z.out.size)); have D := hide (D.out.stays hbk); obtain ⟨g0, g1, g2, g3, g4, g5, _, _⟩ := D.out; clear hbk)
    | (go_at_call 30; refine (l01In_gen _ _ _ _).mono ?_; rintro e wv ⟨rfl, rfl⟩)));
  go_ret;
  exact ⟨by rw [HF.out]; rfl, Z.out⟩)
            | true =>
              cases h3 : it.toList.isEmpty with
              | false =>
                cases h4 : nameB it with
                | false =>
                  have HF : Hid (nodeB ⟨14, num, nm, mo, it, ks⟩ l = false) := by show _ = _; simp [nodeB, h3, h4]
                  clear hv hq ekl
                  (
  (first | (have ev : vq = true := EV.out.symm; subst ev) | (have ev : vq = false := EV.out.symm; subst ev));
  (first | (have ev : sq = true := ES.out.symm; subst ev) | (have ev : sq = false := ES.out.symm; subst ev));
  (go_wp2_with (first
    | (go_at_call 73; refine (unhide (CV _)).mono ?_; rintro e wv ⟨rfl, rfl⟩)
    | (go_at_call 74; refine (unhide (CS _)).mono ?_; rintro e ws ⟨rfl, rfl⟩)
    | (go_at_call 75; refine (unhide (CK _ N.out)).mono ?_; rintro e wk ⟨rfl, hbk⟩; have Z := hide (Z.out.trans (hbk.mono Z.out.size)); have D := hide (D.out.stays hbk); obtain ⟨g0, g1, g2, g3, g4, g5, _, _⟩ := D.out; clear hbk)
    | (go_at_call 51; refine Calls.mono (specNameOk_any _ _ ?_) ?_; (first | exact hs1 | exact hs2 | exact hs3); rintro e wk ⟨rfl, hbk⟩; have Z := hide (Z.out.trans (hbk.mono Z.out.size)); have D := hide (D.out.stays hbk); obtain ⟨g0, g1, g2, g3, g4, g5, _, _⟩ := D.out; clear hbk)
    | (go_at_call 30; refine (l01In_gen _ _ _ _).mono ?_; rintro e wv ⟨rfl, rfl⟩)));
  go_ret;
  exact ⟨by rw [HF.out]; rfl, Z.out⟩)
                | true =>
                  have HF : Hid (nodeB ⟨14, num, nm, mo, it, ks⟩ l = decide (num = 0)) := by
                    show _ = _
                    have : decide ks.Nodup = true := decide_eq_true HU.out
                    show (decide ks.Nodup && (valueQ 14 || stmtQ 14 || decide ((14 : Int) = 20)) && kidsB 14 l && nameB nm && (nameB mo && (it.toList.isEmpty || nameB it)) && decide (num = 0)) = decide (num = 0)
                    rw [this, hv, ekl, h1, h2, h3, h4]
                    rfl
                  clear hv hq ekl
                  (
  (first | (have ev : vq = true := EV.out.symm; subst ev) | (have ev : vq = false := EV.out.symm; subst ev));
  (first | (have ev : sq = true := ES.out.symm; subst ev) | (have ev : sq = false := ES.out.symm; subst ev));
  (go_wp2_with (first
    | (go_at_call 73; refine (unhide (CV _)).mono ?_; rintro e wv ⟨rfl, rfl⟩)
    | (go_at_call 74; refine (unhide (CS _)).mono ?_; rintro e ws ⟨rfl, rfl⟩)
    | (go_at_call 75; refine (unhide (CK _ N.out)).mono ?_; rintro e wk ⟨rfl, hbk⟩; have Z := hide (Z.out.trans (hbk.mono Z.out.size)); have D := hide (D.out.stays hbk); obtain ⟨g0, g1, g2, g3, g4, g5, _, _⟩ := D.out; clear hbk)
    | (go_at_call 51; refine Calls.mono (specNameOk_any _ _ ?_) ?_; (first | exact hs1 | exact hs2 | exact hs3); rintro e wk ⟨rfl, hbk⟩; have Z := hide (Z.out.trans (hbk.mono Z.out.size)); have D := hide (D.out.stays hbk); obtain ⟨g0, g1, g2, g3, g4, g5, _, _⟩ := D.out; clear hbk)
    | (go_at_call 30; refine (l01In_gen _ _ _ _).mono ?_; rintro e wv ⟨rfl, rfl⟩)));
  go_ret;
  exact ⟨by rw [HF.out]; rfl, Z.out⟩)
              | true =>
                have HF : Hid (nodeB ⟨14, num, nm, mo, it, ks⟩ l = decide (num = 0)) := by
                  show _ = _
                  have : decide ks.Nodup = true := decide_eq_true HU.out
                  show (decide ks.Nodup && (valueQ 14 || stmtQ 14 || decide ((14 : Int) = 20)) && kidsB 14 l && nameB nm && (nameB mo && (it.toList.isEmpty || nameB it)) && decide (num = 0)) = decide (num = 0)
                  rw [this, hv, ekl, h1, h2, h3]
                  rfl
                clear hv hq ekl
                (
  (first | (have ev : vq = true := EV.out.symm; subst ev) | (have ev : vq = false := EV.out.symm; subst ev));
  (first | (have ev : sq = true := ES.out.symm; subst ev) | (have ev : sq = false := ES.out.symm; subst ev));
  (go_wp2_with (first
    | (go_at_call 73; refine (unhide (CV _)).mono ?_; rintro e wv ⟨rfl, rfl⟩)
    | (go_at_call 74; refine (unhide (CS _)).mono ?_; rintro e ws ⟨rfl, rfl⟩)
    | (go_at_call 75; refine (unhide (CK _ N.out)).mono ?_; rintro e wk ⟨rfl, hbk⟩; have Z := hide (Z.out.trans (hbk.mono Z.out.size)); have D := hide (D.out.stays hbk); obtain ⟨g0, g1, g2, g3, g4, g5, _, _⟩ := D.out; clear hbk)
    | (go_at_call 51; refine Calls.mono (specNameOk_any _ _ ?_) ?_; (first | exact hs1 | exact hs2 | exact hs3); rintro e wk ⟨rfl, hbk⟩; have Z := hide (Z.out.trans (hbk.mono Z.out.size)); have D := hide (D.out.stays hbk); obtain ⟨g0, g1, g2, g3, g4, g5, _, _⟩ := D.out; clear hbk)
    | (go_at_call 30; refine (l01In_gen _ _ _ _).mono ?_; rintro e wv ⟨rfl, rfl⟩)));
  go_ret;
  exact ⟨by rw [HF.out]; rfl, Z.out⟩)
      have e1 : valueQ kd = false := by rw [valueQ, inZ_no]; omega
      have e2 : stmtQ kd = false := by rw [stmtQ, inZ_no]; omega
      have e3 : ¬ kd = 20 := by omega
      have HF : Hid (nodeB ⟨kd, num, nm, mo, it, ks⟩ l = false) := by show _ = _; simp [nodeB, e1, e2, e3]
      have ev : vq = false := EV.out.symm.trans e1
      have es : sq = false := ES.out.symm.trans e2
      subst ev
      subst es
      clear e1 e2
      (go_wp2_with (first
    | (go_at_call 73; refine (unhide (CV _)).mono ?_; rintro e wv ⟨rfl, rfl⟩)
    | (go_at_call 74; refine (unhide (CS _)).mono ?_; rintro e ws ⟨rfl, rfl⟩)
    | (go_at_call 75; refine (unhide (CK _ N.out)).mono ?_; rintro e wk ⟨rfl, hbk⟩; have Z := hide (Z.out.trans (hbk.mono Z.out.size)); have D := hide (D.out.stays hbk); obtain ⟨g0, g1, g2, g3, g4, g5, _, _⟩ := D.out; clear hbk)
    | (go_at_call 51; refine Calls.mono (specNameOk_any _ _ ?_) ?_; (first | exact hs1 | exact hs2 | exact hs3); rintro e wk ⟨rfl, hbk⟩; have Z := hide (Z.out.trans (hbk.mono Z.out.size)); have D := hide (D.out.stays hbk); obtain ⟨g0, g1, g2, g3, g4, g5, _, _⟩ := D.out; clear hbk)
    | (go_at_call 30; refine (l01In_gen _ _ _ _).mono ?_; rintro e wv ⟨rfl, rfl⟩)))
      go_ret
      exact ⟨by rw [HF.out]; rfl, Z.out⟩
end Go.Proofs.YtdfahpachbhglaaGreatDoor

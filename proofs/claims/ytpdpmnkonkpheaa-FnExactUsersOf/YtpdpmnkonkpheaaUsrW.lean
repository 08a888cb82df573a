/-
  Walks: who uses a monitor, by both sides.
-/
import Derived.Test.YtpdpmnkonkpheaaUseI
import Derived.Test.YtpdpmnkonkpheaaAppQ
namespace Go.Proofs.Ytpdpmnkonkpheaa
open Go.RowKit

/-- Those of the first so many processes that use it. -/
def usersL (ms : List Mo) (ps : List Pr) (m : Int) (i : Nat) : List Int := ((List.range i).filter fun j : Nat => usesP ms ps (j : Int) m).map fun j : Nat => (j : Int)
theorem usersL_yes {ms : List Mo} {ps : List Pr} {m : Int} {i : Nat} (h : usesP ms ps (i : Int) m = true) : usersL ms ps m (i + 1) = usersL ms ps m i ++ [(i : Int)] := by
  unfold usersL
  have e : List.filter (fun j : Nat => usesP ms ps (j : Int) m) [i] = [i] := by rw [List.filter_cons, h]; rfl
  rw [List.range_succ, List.filter_append, List.map_append, e]
  rfl
theorem usersL_no {ms : List Mo} {ps : List Pr} {m : Int} {i : Nat} (h : usesP ms ps (i : Int) m = false) : usersL ms ps m (i + 1) = usersL ms ps m i := by
  unfold usersL
  have e : List.filter (fun j : Nat => usesP ms ps (j : Int) m) [i] = [] := by rw [List.filter_cons, h]; rfl
  rw [List.range_succ, List.filter_append, e, List.append_nil]
theorem usersL_len (ms : List Mo) (ps : List Pr) (m : Int) (i : Nat) : (usersL ms ps m i).length ≤ i := by
  unfold usersL
  rw [List.length_map]
  have := List.length_filter_le (fun j : Nat => usesP ms ps (j : Int) m) (List.range i)
  rw [List.length_range] at this
  exact this
theorem ownsRow_lo {a b : Nat} {e : TypeId} {s n : Nat} {v : Value} {l : List Value} {w : World} (h : w.ownsRow b e s v n l) (hab : a ≤ b) : w.ownsRow a e s v n l := by
  refine ⟨h.1, ?_⟩
  rcases h.2 with h0 | ⟨g, cap, cur, e1, hb1, hg, hr⟩
  · exact .inl h0
  · exact .inr ⟨g, cap, cur, e1, Nat.le_trans hab hb1, hg, hr⟩
theorem boxed_up {w z z' : World} {nv mv pv : Value} (h : Boxed w.heap.size z nv mv pv) (hb : Below (w.heap.size + 1) z z') : Boxed w.heap.size z' nv mv pv :=
  ⟨(hb.cell (p := ⟨w.heap.size, 0, none⟩) (Nat.lt_succ_self _)).trans h.c0, (hb.cell (p := ⟨w.heap.size, 1, none⟩) (Nat.lt_succ_self _)).trans h.c1, (hb.cell (p := ⟨w.heap.size, 2, none⟩) (Nat.lt_succ_self _)).trans h.c2, Nat.lt_of_lt_of_le h.lt hb.size⟩
structure UrZ (w : World) (nv mv pv : Value) (ms : List Mo) (ps : List Pr) (m : Int) (i : Nat) (v : Value) (z : World) : Prop where
  bp : Boxed w.heap.size z nv mv pv
  row : z.ownsRow (w.heap.size + 1) 3 1 v (usersL ms ps m i).length ((usersL ms ps m i).map I64)
  bel : Below w.heap.size w z
theorem UrZ.stays {w : World} {nv mv pv : Value} {ms : List Mo} {ps : List Pr} {m : Int} {i : Nat} {v : Value} {z z' : World} (h : UrZ w nv mv pv ms ps m i v z) (hb : Below z.heap.size z z') : UrZ w nv mv pv ms ps m i v z' := ⟨h.bp.stays hb, ownsInts_stays h.row hb, h.bel.trans (hb.mono h.bel.size)⟩
theorem UrZ.same {w : World} {nv mv pv : Value} {ms : List Mo} {ps : List Pr} {m : Int} {i j : Nat} {v : Value} {z : World} (h : UrZ w nv mv pv ms ps m i v z) (e : usersL ms ps m j = usersL ms ps m i) : UrZ w nv mv pv ms ps m j v z := ⟨h.bp, by rw [e]; exact h.row, h.bel⟩
def UrR (w : World) (nv mv pv : Value) (ms : List Mo) (ps : List Pr) (m : Int) (q : Nat) (v iv : Value) (wr : World) : Prop := ∃ i : Nat, i ≤ q ∧ iv = .int .i64 i ∧ Hid (UrZ w nv mv pv ms ps m i v wr)

set_option maxRecDepth 100000 in
set_option maxHeartbeats 4000000 in
theorem specUsers_any (nv mv pv : Value) (ms : List Mo) (ps : List Pr) (m : Int) (w : World) (hN : SlV nv) (hM : MosAt w mv ms) (hP : PrsAt w pv ps) (hpl : ps.length ≤ 1048576) (hml : ms.length ≤ 1048576) (hul : ∀ p ∈ ps, p.uses.length ≤ 1048576) :
    Calls Try.prog 10 #[.agg #[nv, mv, pv], .int .i64 m] w fun e w' => ∃ v, e = .returned v ∧ w'.ownsRow w.heap.size 3 1 v (usersL ms ps m ps.length).length ((usersL ms ps m ps.length).map I64) ∧ Below w.heap.size w w' := by
  have hb1 : Below w.heap.size w (w.alloc (.cells #[nv, mv, pv] 33)) := (Below.refl _ _).alloc (Nat.le_refl _) _
  have hb12 : Below (w.alloc (.cells #[nv, mv, pv] 33)).heap.size (w.alloc (.cells #[nv, mv, pv] 33)) ((w.alloc (.cells #[nv, mv, pv] 33)).alloc (.cells #[] 3)) := (Below.refl _ _).alloc (Nat.le_refl _) _
  have hsz : (w.alloc (.cells #[nv, mv, pv] 33)).heap.size = w.heap.size + 1 := by simp
  have HX := hide ((Boxed.made w nv mv pv 33).stays hb12)
  have HO := hide (ownsRow_empty (w.alloc (.cells #[nv, mv, pv] 33)) (w.heap.size + 1) 3 (by rw [hsz]; exact Nat.le_refl _))
  rw [hsz] at HO
  have HB := hide (hb1.alloc hb1.size (.cells #[] 3))
  have CU := fun i z (h : Below w.heap.size w z) => hide (specUses_any nv mv pv ms ps i m z hN (hM.stays h) (hP.stays h) hml hpl hul)
  obtain ⟨ao, an, ac, rfl⟩ := hN
  obtain ⟨mo, mc, rfl, _⟩ := hM
  obtain ⟨po, pc, rfl, _⟩ := hP
  obtain ⟨q, eq⟩ : ∃ q, ps.length = q := ⟨_, rfl⟩
  have EQ := hide eq
  obtain ⟨mm, emm⟩ : ∃ mm, ms.length = mm := ⟨_, rfl⟩
  rw [eq] at hpl
  rw [eq, emm] at CU HX HB HO ⊢
  clear eq emm hb1 hb12 hsz
  obtain ⟨W1, hW⟩ : ∃ W1, (w.alloc (.cells #[.slice ao an ac, .slice mo mm mc, .slice po q pc] 33)).alloc (.cells #[] 3) = W1 := ⟨_, rfl⟩
  obtain ⟨c0, c1, c2, _⟩ := HX.out
  have Z0 : Hid (UrZ w (.slice ao an ac) (.slice mo mm mc) (.slice po q pc) ms ps m 0 (.slice (some ⟨w.heap.size + 1, 0, none⟩) 0 0) W1) := by rw [← hW]; exact hide ⟨HX.out, HO.out, HB.out⟩
  have HW := hide hW
  clear HX HO HB hW
  go_enter Try.func10, Try.ntmps10
  go_wp2
  rw [HW.out]
  go_loopw [5, 6] (fun v iv wr => UrR w (.slice ao an ac) (.slice mo mm mc) (.slice po q pc) ms ps m q v iv wr) (fun _ iv _ => q - (intOf iv).toNat)
  case atStart => exact ⟨0, by omega, rfl, Z0.out⟩
  case round =>
    clear Z0 c0 c1 c2
    obtain ⟨i, hi, rfl, Z⟩ := hrel
    obtain ⟨c0, c1, c2, _⟩ := Z.out.bp
    by_cases hlt : i < q
    · have hlt' : (i : Int) < (q : Int) := by omega
      have hi0 : (0 : Int) ≤ (i : Int) := by omega
      have CUI := CU (i : Int) wr Z.out.bel
      obtain ⟨b, eb⟩ : ∃ b, usesP ms ps (i : Int) m = b := ⟨_, rfl⟩
      rw [eb] at CUI
      have hll := usersL_len ms ps m i
      cases b with
      | false =>
        have HN := hide (usersL_no eb)
        clear eb hll
        go_wp2_with fail
        refine (unhide CUI).mono ?_
        rintro e z7 ⟨rfl, hb7⟩
        have Z7 := hide (Z.out.stays hb7)
        clear hb7 c0 c1 c2
        go_wp2
        go_roundw
        case rel => exact ⟨i + 1, by omega, by go_num, Z7.out.same HN.out⟩
        case measure => simp [intOf]; omega
      | true =>
        have HN := hide (usersL_yes eb)
        clear eb
        go_wp2_with fail
        refine (unhide CUI).mono ?_
        rintro e z7 ⟨rfl, hb7⟩
        have Z7 := hide (Z.out.stays hb7)
        have hwz : w.heap.size + 1 ≤ z7.heap.size := by have := Z7.out.bp.lt; omega
        obtain ⟨L, eL⟩ : ∃ L, usersL ms ps m i = L := ⟨_, rfl⟩
        have O7 := Z7.out.row
        rw [eL] at O7 hll
        have HO7 := hide O7
        have EL := hide eL
        clear hb7 c0 c1 c2 O7 eL
        go_wp2_with (at_builtin; refine wpList_app_new (g := z7.heap.size) rfl rfl (.tmp 19) (.tmp 21) 37 rfl (w.heap.size + 1) 3 (.int .i64 0) 8 Try.underlying37 Try.infoInt rfl _ L.length _ _ rfl HO7.out 1 rfl rfl (by intro u hu; simp at hu; subst hu; rfl) (by unfold maxLen; omega) (by omega) hwz ?_)
        intro v5 w5 hown5 hb5 hk5
        have Z5 : Hid (UrZ w (.slice ao an ac) (.slice mo mm mc) (.slice po q pc) ms ps m (i + 1) v5 w5) := by
          refine ⟨boxed_up Z7.out.bp hb5, ?_, Z7.out.bel.trans (hb5.mono (Nat.le_succ _))⟩
          rw [HN.out, EL.out, List.map_append, List.length_append]
          exact hown5
        clear hown5 hb5 hk5 HO7
        go_wp2
        go_roundw
        case rel => exact ⟨i + 1, by omega, by go_num, Z5.out⟩
        case measure => simp [intOf]; omega
    · have hlt' : ¬ (i : Int) < (q : Int) := by omega
      have e9 : i = q := by omega
      subst e9
      go_wp2
      go_ret
      exact ⟨_, rfl, ownsRow_lo Z.out.row (Nat.le_succ _), Z.out.bel⟩

set_option maxRecDepth 100000 in
set_option maxHeartbeats 4000000 in
theorem implUsers_any (nv mv pv : Value) (ms : List Mo) (ps : List Pr) (m : Int) (w : World) (hN : SlV nv) (hM : MosAt w mv ms) (hP : PrsAt w pv ps) (hpl : ps.length ≤ 1048576) (hul : ∀ p ∈ ps, p.uses.length ≤ 1048576) (hus : ∀ p ∈ ps, ∀ u ∈ p.uses, u.size ≤ 1048576) (hmn : ∀ m ∈ ms, m.name.size ≤ 1048576) :
    Calls Try.prog 11 #[.agg #[nv, mv, pv], .int .i64 m] w fun e w' => ∃ v, e = .returned v ∧ w'.ownsRow w.heap.size 3 1 v (usersL ms ps m ps.length).length ((usersL ms ps m ps.length).map I64) ∧ Below w.heap.size w w' := by
  have hb1 : Below w.heap.size w (w.alloc (.cells #[nv, mv, pv] 33)) := (Below.refl _ _).alloc (Nat.le_refl _) _
  have hb12 : Below (w.alloc (.cells #[nv, mv, pv] 33)).heap.size (w.alloc (.cells #[nv, mv, pv] 33)) ((w.alloc (.cells #[nv, mv, pv] 33)).alloc (.cells #[] 3)) := (Below.refl _ _).alloc (Nat.le_refl _) _
  have hsz : (w.alloc (.cells #[nv, mv, pv] 33)).heap.size = w.heap.size + 1 := by simp
  have HX := hide ((Boxed.made w nv mv pv 33).stays hb12)
  have HO := hide (ownsRow_empty (w.alloc (.cells #[nv, mv, pv] 33)) (w.heap.size + 1) 3 (by rw [hsz]; exact Nat.le_refl _))
  rw [hsz] at HO
  have HB := hide (hb1.alloc hb1.size (.cells #[] 3))
  have CU := fun i z (h : Below w.heap.size w z) => hide (implUses_any nv mv pv ms ps i m z hN (hM.stays h) (hP.stays h) hul hus hmn)
  obtain ⟨ao, an, ac, rfl⟩ := hN
  obtain ⟨mo, mc, rfl, _⟩ := hM
  obtain ⟨po, pc, rfl, _⟩ := hP
  obtain ⟨q, eq⟩ : ∃ q, ps.length = q := ⟨_, rfl⟩
  have EQ := hide eq
  obtain ⟨mm, emm⟩ : ∃ mm, ms.length = mm := ⟨_, rfl⟩
  rw [eq] at hpl
  rw [eq, emm] at CU HX HB HO ⊢
  clear eq emm hb1 hb12 hsz
  obtain ⟨W1, hW⟩ : ∃ W1, (w.alloc (.cells #[.slice ao an ac, .slice mo mm mc, .slice po q pc] 33)).alloc (.cells #[] 3) = W1 := ⟨_, rfl⟩
  obtain ⟨c0, c1, c2, _⟩ := HX.out
  have Z0 : Hid (UrZ w (.slice ao an ac) (.slice mo mm mc) (.slice po q pc) ms ps m 0 (.slice (some ⟨w.heap.size + 1, 0, none⟩) 0 0) W1) := by rw [← hW]; exact hide ⟨HX.out, HO.out, HB.out⟩
  have HW := hide hW
  clear HX HO HB hW
  go_enter Try.func11, Try.ntmps11
  go_wp2
  rw [HW.out]
  go_loopw [5, 11] (fun v iv wr => UrR w (.slice ao an ac) (.slice mo mm mc) (.slice po q pc) ms ps m q v iv wr) (fun _ iv _ => q - (intOf iv).toNat)
  case atStart => exact ⟨0, by omega, rfl, Z0.out⟩
  case round =>
    clear Z0 c0 c1 c2
    obtain ⟨i, hi, rfl, Z⟩ := hrel
    obtain ⟨c0, c1, c2, _⟩ := Z.out.bp
    by_cases hlt : i < q
    · have hlt' : (i : Int) < (q : Int) := by omega
      have hi0 : (0 : Int) ≤ (i : Int) := by omega
      have CUI := CU (i : Int) wr Z.out.bel
      obtain ⟨b, eb⟩ : ∃ b, usesP ms ps (i : Int) m = b := ⟨_, rfl⟩
      rw [eb] at CUI
      have hll := usersL_len ms ps m i
      cases b with
      | false =>
        have HN := hide (usersL_no eb)
        clear eb hll
        go_wp2_with fail
        refine (unhide CUI).mono ?_
        rintro e z7 ⟨rfl, hb7⟩
        have Z7 := hide (Z.out.stays hb7)
        clear hb7 c0 c1 c2
        go_wp2
        go_roundw
        case rel => exact ⟨i + 1, by omega, by go_num, Z7.out.same HN.out⟩
        case measure => simp [intOf]; omega
      | true =>
        have HN := hide (usersL_yes eb)
        clear eb
        go_wp2_with fail
        refine (unhide CUI).mono ?_
        rintro e z7 ⟨rfl, hb7⟩
        have Z7 := hide (Z.out.stays hb7)
        have hwz : w.heap.size + 1 ≤ z7.heap.size := by have := Z7.out.bp.lt; omega
        obtain ⟨L, eL⟩ : ∃ L, usersL ms ps m i = L := ⟨_, rfl⟩
        have O7 := Z7.out.row
        rw [eL] at O7 hll
        have HO7 := hide O7
        have EL := hide eL
        clear hb7 c0 c1 c2 O7 eL
        go_wp2_with (at_builtin; refine wpList_app_new (g := z7.heap.size) rfl rfl (.tmp 18) (.tmp 20) 37 rfl (w.heap.size + 1) 3 (.int .i64 0) 8 Try.underlying37 Try.infoInt rfl _ L.length _ _ rfl HO7.out 1 rfl rfl (by intro u hu; simp at hu; subst hu; rfl) (by unfold maxLen; omega) (by omega) hwz ?_)
        intro v5 w5 hown5 hb5 hk5
        have Z5 : Hid (UrZ w (.slice ao an ac) (.slice mo mm mc) (.slice po q pc) ms ps m (i + 1) v5 w5) := by
          refine ⟨boxed_up Z7.out.bp hb5, ?_, Z7.out.bel.trans (hb5.mono (Nat.le_succ _))⟩
          rw [HN.out, EL.out, List.map_append, List.length_append]
          exact hown5
        clear hown5 hb5 hk5 HO7
        go_wp2
        go_roundw
        case rel => exact ⟨i + 1, by omega, by go_num, Z5.out⟩
        case measure => simp [intOf]; omega
    · have hlt' : ¬ (i : Int) < (q : Int) := by omega
      have e9 : i = q := by omega
      subst e9
      go_wp2
      go_ret
      exact ⟨_, rfl, ownsRow_lo Z.out.row (Nat.le_succ _), Z.out.bel⟩
end Go.Proofs.Ytpdpmnkonkpheaa

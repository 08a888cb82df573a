/-
  Walks: the law's own marks on rows of signs.
-/
import Derived.Test.YtfnmpohcoabenaaDoorSgP
import Derived.Test.YtfnmpohcoabenaaDoorMarkW
namespace Go.Proofs.YtfnmpohcoabenaaDoor
open Go.RowKit

/-- The marks of a sign. -/
def mkSg (k i : Nat) : Sg := ⟨((k + 4 * i : Nat) : Int), markS (k + 4 * i + 1), ((k + 4 * i + 2 : Nat) : Int), ((k + 4 * i + 3 : Nat) : Int)⟩
def sgMarks (k n : Nat) : List Sg := (List.range n).map fun i => mkSg k i
theorem sgMarks_len (k n : Nat) : (sgMarks k n).length = n := by simp [sgMarks]
theorem sgMarks_at (k n j : Nat) (h : j < (sgMarks k n).length) : (sgMarks k n)[j] = mkSg k j := by simp [sgMarks]
/-- The first j of a row are marked, the rest is as it was. -/
def sgMarked (xs : List Sg) (k j : Nat) : List Sg := sgMarks k j ++ xs.drop j
theorem sgMarked_zero (xs : List Sg) (k : Nat) : sgMarked xs k 0 = xs := by simp [sgMarked, sgMarks]
theorem sgMarked_all (xs : List Sg) (k : Nat) : sgMarked xs k xs.length = sgMarks k xs.length := by simp [sgMarked]
theorem sgMarked_len (xs : List Sg) (k j : Nat) (h : j ≤ xs.length) : (sgMarked xs k j).length = xs.length := by simp [sgMarked, sgMarks]; omega
theorem sgMarked_succ (xs : List Sg) (k j : Nat) (h : j < xs.length) : (sgMarked xs k j).set j (mkSg k j) = sgMarked xs k (j + 1) := by
  have e1 : sgMarks k (j + 1) = sgMarks k j ++ [mkSg k j] := by simp [sgMarks, List.range_succ]
  rw [sgMarked, sgMarked, e1, List.set_append_right _ _ (by rw [sgMarks_len]; exact Nat.le_refl _), sgMarks_len, Nat.sub_self, List.drop_eq_getElem_cons h, List.set_cons_zero, List.append_assoc]
  rfl

theorem there_four {w : World} {g o : Nat} (h : w.there g o 4) : (∃ y0 y1 y2 y3, w.cell? { block := g, off := o } = some y0 ∧ w.cell? { block := g, off := o + 1 } = some y1 ∧ w.cell? { block := g, off := o + 2 } = some y2 ∧ w.cell? { block := g, off := o + 3 } = some y3) ∧
    w.frozen? { block := g, off := o } = false ∧ w.frozen? { block := g, off := o + 1 } = false ∧ w.frozen? { block := g, off := o + 2 } = false ∧ w.frozen? { block := g, off := o + 3 } = false := by
  obtain ⟨y0, h0⟩ := Option.isSome_iff_exists.1 (h 0 (by omega)).1
  obtain ⟨y1, h1⟩ := Option.isSome_iff_exists.1 (h 1 (by omega)).1
  obtain ⟨y2, h2⟩ := Option.isSome_iff_exists.1 (h 2 (by omega)).1
  obtain ⟨y3, h3⟩ := Option.isSome_iff_exists.1 (h 3 (by omega)).1
  exact ⟨⟨y0, y1, y2, y3, h0, h1, h2, h3⟩, (h 0 (by omega)).2, (h 1 (by omega)).2, (h 2 (by omega)).2, (h 3 (by omega)).2⟩

theorem row_form {w : World} {base : Nat} {e : TypeId} {size : Nat} {v : Value} {n : Nat} {xs : List Value} (h : w.ownsRow base e size v n xs) : (n = 0 ∧ ∃ ao cap, v = .slice ao 0 cap) ∨ (0 < n ∧ ∃ g cap, v = .slice (some ⟨g, 0, none⟩) n cap ∧ base ≤ g ∧ g < w.heap.size) := by
  rcases h.2 with ⟨rfl, h0⟩ | ⟨g, cap, cur, rfl, hb, hg, _⟩
  · exact .inl ⟨h0, none, 0, rfl⟩
  · rcases Nat.eq_zero_or_pos n with h0 | h0
    · subst h0; exact .inl ⟨rfl, _, _, rfl⟩
    · exact .inr ⟨h0, g, cap, rfl, hb, (h.lt g rfl).2⟩

/-- Marking: behind it the row holds the marks. -/
def MkSRel (w : World) (base : Nat) (v : Value) (n k0 : Nat) (xs : List Sg) (iv kv : Value) (wr : World) : Prop :=
  ∃ j : Nat, j ≤ n ∧ iv = .int .i64 j ∧ kv = .int .i64 ((k0 + 4 * j : Nat) : Int) ∧ wr.ownsRow base 36 4 v n (sgCells (sgMarked xs k0 j)) ∧ Below base w wr

set_option maxHeartbeats 2000000 in
theorem markSigns_any (v : Value) (n base k0 : Nat) (xs : List Sg) (w : World) (hn : n ≤ 1048576) (hk1 : k0 ≤ 1000000000) (ha : w.ownsRow base 36 4 v n (sgCells xs)) :
    Calls Tryd.prog 7 #[v, .int .i64 k0] w fun e w' => e = .returned (.int .i64 ((k0 + 4 * n : Nat) : Int)) ∧ w'.ownsRow base 36 4 v n (sgCells (sgMarks k0 n)) ∧ Below base w w' := by
  have hl : xs.length = n := (SgAt.own ha).2
  have HA := hide ha
  rcases row_form ha with ⟨h0, ao, cap, rfl⟩ | ⟨h0, g, cap, rfl, hbg, hg⟩
  · subst h0
    have hx : xs = [] := List.length_eq_zero_iff.1 hl
    subst hx
    clear ha
    go_enter Tryd.func7, Tryd.ntmps7
    go_wp2
    refine wp_loop_rounds 1 ?_
    rw [rounds_succ]
    go_wp2
    go_ret
    exact ⟨rfl, HA.out, Below.refl _ _⟩
  · clear ha
    go_enter Tryd.func7, Tryd.ntmps7
    go_wp2
    go_loopw [5, 1] (fun iv kv wr => MkSRel w base (.slice (some ⟨g, 0, none⟩) n cap) n k0 xs iv kv wr) (fun iv _ _ => n - (intOf iv).toNat)
    case atStart => exact ⟨0, Nat.zero_le _, rfl, rfl, by rw [sgMarked_zero]; exact HA.out, Below.refl _ _⟩
    case round =>
      obtain ⟨j, hj, rfl, rfl, hown, hb⟩ := hrel
      by_cases hlt : j < n
      · have hi0 : (0 : Int) ≤ (j : Int) := by omega
        have hi1 : (j : Int) < (n : Int) := by omega
        obtain ⟨⟨y0, y1, y2, y3, c0, c1, c2, c3⟩, f0, f1, f2, f3⟩ := there_four (there_own hown j hlt)
        obtain ⟨q, hq⟩ : ∃ q : Nat, q = k0 + 4 * j := ⟨_, rfl⟩
        have hq2 : ((k0 + 4 * j : Nat) : Int) = (q : Int) := by rw [hq]
        have hq9 : q ≤ 1010000000 := by omega
        rw [hq2]
        have h1 := (hown.stored (j * 4) (.int .i64 (q : Int))).1
        have hb1 : Below base w (wr.setCell ⟨g, j * 4, none⟩ (.int .i64 (q : Int))) := hb.setCell (p := ⟨g, j * 4, none⟩) hbg _
        have H1 := hide h1
        have HB1 := hide hb1
        have HQ := hide hq
        clear h1 hb1 hq hq2 hown hb
        have MT := fun w => hide (markText_any (q + 1) w (by omega) (by omega))
        have eK : ((q + 1 : Nat) : Int) = (q : Int) + 1 := by omega
        rw [eK] at MT
        obtain ⟨m, hm⟩ : ∃ m, m = markS (q + 1) := ⟨_, rfl⟩
        rw [← hm] at MT
        have HM := hide hm
        clear hm eK
        go_wp2_with fail
        refine (unhide (MT _)).mono ?_
        rintro e w1 ⟨rfl, hb2⟩
        have hown1 := ownsRow_stays H1.out hb2
        obtain ⟨⟨x0, x1, x2, x3, d0, d1, d2, d3⟩, g0, g1, g2, g3⟩ := there_four (there_own hown1 j hlt)
        have HR : ∀ a2 a3 : Int, a2 = (q : Int) + 2 → a3 = (q : Int) + 3 → Hid ((((w1.setCell ⟨g, j * 4 + 1, none⟩ (.string m)).setCell ⟨g, j * 4 + 2, none⟩ (.int .i64 a2)).setCell ⟨g, j * 4 + 3, none⟩ (.int .i64 a3)).ownsRow base 36 4 (.slice (some ⟨g, 0, none⟩) n cap) n (sgCells (sgMarked xs k0 (j + 1))) ∧
            Below base w (((w1.setCell ⟨g, j * 4 + 1, none⟩ (.string m)).setCell ⟨g, j * 4 + 2, none⟩ (.int .i64 a2)).setCell ⟨g, j * 4 + 3, none⟩ (.int .i64 a3))) := by
          rintro a2 a3 rfl rfl
          refine ⟨?_, (((HB1.out.trans (hb2.mono (Nat.le_trans hbg (Nat.le_of_lt (Nat.lt_of_lt_of_le hg HB1.out.size))))).setCell (p := ⟨g, j * 4 + 1, none⟩) hbg _).setCell (p := ⟨g, j * 4 + 2, none⟩) hbg _).setCell (p := ⟨g, j * 4 + 3, none⟩) hbg _⟩
          have h2 := (((hown1.stored (j * 4 + 1) (.string m)).1.stored (j * 4 + 2) (.int .i64 ((q : Int) + 2))).1.stored (j * 4 + 3) (.int .i64 ((q : Int) + 3))).1
          have e1 : mkSg k0 j = ⟨(q : Int), m, (q : Int) + 2, (q : Int) + 3⟩ := by rw [mkSg, HM.out, HQ.out]; congr 1
          have h3 := setL_sg (sgMarked xs k0 j) j (mkSg k0 j) (by rw [sgMarked_len xs k0 j (by omega)]; omega)
          rw [sgMarked_succ xs k0 j (by omega), e1] at h3
          rw [← h3]
          exact h2
        have hb3 := hb2.size
        clear hown1 hb2 c0 c1 c2 c3 f0 f1 f2 f3
        go_wp2
        go_roundw
        case rel =>
          have h4 := (HR _ _ rfl rfl).out
          refine ⟨j + 1, by omega, by go_num, ?_, h4.1, h4.2⟩
          have := HQ.out
          congr 1; omega
        case measure => simp [intOf]; omega
      · have e : j = n := by omega
        have HE := hide e
        clear e
        have HO := hide hown
        clear hown
        go_wp2
        go_ret
        refine ⟨by rw [← HE.out]; rfl, ?_, hb⟩
        have := HO.out
        rw [HE.out, ← hl, sgMarked_all, hl] at this
        exact this

set_option maxHeartbeats 2000000 in
theorem heldSigns_any (v : Value) (n base k0 : Nat) (w : World) (hn : n ≤ 1048576) (hk1 : k0 ≤ 1000000000) (ha : w.ownsRow base 36 4 v n (sgCells (sgMarks k0 n))) :
    Calls Tryd.prog 8 #[v, .int .i64 k0] w fun e w' => e = .returned (.int .i64 ((k0 + 4 * n : Nat) : Int)) ∧ Below w.heap.size w w' := by
  have HA := hide (SgAt.own ha).1
  rcases row_form ha with ⟨h0, ao, cap, rfl⟩ | ⟨h0, g, cap, rfl, hbg, hg⟩
  · subst h0
    clear ha
    go_enter Tryd.func8, Tryd.ntmps8
    go_wp2
    refine wp_loop_rounds 1 ?_
    rw [rounds_succ]
    go_wp2
    go_ret
    exact ⟨rfl, Below.refl _ _⟩
  · clear ha
    have HC : Hid (∀ j, j < n → SgCell w ⟨g, j * 4, none⟩ (mkSg k0 j)) := by
      intro j hj
      obtain ⟨ao, c, hv, hc⟩ := HA.out
      have hl : j < (sgMarks k0 n).length := by rw [sgMarks_len]; exact hj
      obtain ⟨a, e1, _, h⟩ := hc j hl
      simp only [Value.slice.injEq] at hv
      rw [e1] at hv
      have e2 : a = ⟨g, 0, none⟩ := (Option.some.inj hv.1).symm
      subst e2
      rw [sgMarks_at] at h
      rwa [Addr.add_mid, Nat.zero_add] at h
    go_enter Tryd.func8, Tryd.ntmps8
    go_wp2
    go_loopw [5, 1] (fun iv kv wr => ∃ j : Nat, j ≤ n ∧ iv = .int .i64 j ∧ kv = .int .i64 ((k0 + 4 * j : Nat) : Int) ∧ Below w.heap.size w wr) (fun iv _ _ => n - (intOf iv).toNat)
    case atStart => exact ⟨0, Nat.zero_le _, rfl, rfl, Below.refl _ _⟩
    case round =>
      obtain ⟨j, hj, rfl, rfl, hb⟩ := hrel
      by_cases hlt : j < n
      · have hi0 : (0 : Int) ≤ (j : Int) := by omega
        have hi1 : (j : Int) < (n : Int) := by omega
        have hcj := (HC.out j hlt).stays hb hg
        obtain ⟨q, hq⟩ : ∃ q : Nat, q = k0 + 4 * j := ⟨_, rfl⟩
        have hq2 : ((k0 + 4 * j : Nat) : Int) = (q : Int) := by rw [hq]
        have hq9 : q ≤ 1010000000 := by omega
        rw [mkSg, ← hq] at hcj
        rw [hq2]
        obtain ⟨m, hm⟩ : ∃ m, m = markS (q + 1) := ⟨_, rfl⟩
        rw [← hm] at hcj
        have c0 : wr.cell? { block := g, off := j * 4 } = some (.int .i64 (q : Int)) := hcj.facts.1
        have c1 : wr.cell? { block := g, off := j * 4 + 1 } = some (.string m) := hcj.facts.2.1
        have c2 : wr.cell? { block := g, off := j * 4 + 2 } = some (.int .i64 ((q + 2 : Nat) : Int)) := hcj.facts.2.2.1
        have c3 : wr.cell? { block := g, off := j * 4 + 3 } = some (.int .i64 ((q + 3 : Nat) : Int)) := hcj.facts.2.2.2
        have e2 : ((q + 2 : Nat) : Int) = (q : Int) + 2 := by omega
        have e3 : ((q + 3 : Nat) : Int) = (q : Int) + 3 := by omega
        rw [e2] at c2
        rw [e3] at c3
        have HQ := hide hq
        have MT := fun w => hide (markText_any (q + 1) w (by omega) (by omega))
        have eK : ((q + 1 : Nat) : Int) = (q : Int) + 1 := by omega
        rw [eK] at MT
        rw [← hm] at MT
        have HM := hide hm
        have HB := hide hb
        have hsz := hb.size
        have hgw : g < wr.heap.size := by omega
        clear hm eK hcj hq hq2 e2 e3 hb
        go_wp2
        go_region_held3 (fun w' => w'.cell? { block := g, off := j * 4 + 1 } = some (.string m)) (first | go_keep | exact (hb1.cell (p := ⟨g, j * 4 + 1, none⟩) hgw).trans c1) ((go_at_call 15; refine (unhide (MT _)).mono ?_; rintro e w1 ⟨rfl, hb1⟩))
        all_goals
          have d2 := (hb1.cell (p := ⟨g, j * 4 + 2, none⟩) hgw).trans c2
          have d3 := (hb1.cell (p := ⟨g, j * 4 + 3, none⟩) hgw).trans c3
          have HR : Hid (Below w.heap.size w w1) := HB.out.trans ((Below.drew (Below.refl _ _)).trans (hb1.mono hsz))
          clear hb1 c0 c1 c2 c3
          go_wp2
          go_roundw
          case rel =>
            refine ⟨j + 1, by omega, by go_num, ?_, HR.out⟩
            have := HQ.out
            congr 1; omega
          case measure => simp [intOf]; omega
      · have e : j = n := by omega
        have HE := hide e
        clear e
        go_wp2
        go_ret
        exact ⟨by rw [← HE.out]; rfl, hb⟩
end Go.Proofs.YtfnmpohcoabenaaDoor

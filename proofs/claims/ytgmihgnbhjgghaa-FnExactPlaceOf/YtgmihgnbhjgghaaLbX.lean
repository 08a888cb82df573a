/-
  Walks of the program: whether a line is right among labels.
-/
import Derived.Test.YtgmihgnbhjgghaaLbW
import Derived.Test.YtgmihgnbhjgghaaInsI
import Derived.Laws.StructEq
import Derived.ChangeKeysEq
namespace Go.Proofs.Ytgmihgnbhjgghaa
open Go.RowKit Go.Maps

theorem part3r {cs : Array Value} {k : Nat} {n : Int} (h : cs[k]? = some (.int .i64 n)) (z : World) : (part 3 cs k).run Try.prog z = .ok (.int .i64 n) z := by
  rw [part]
  simp [go_sem, h]
/-- Whether a word is nothing at all. -/
def nilIns (op a b c : Int) : Bool := decide (op = 0 ∧ a = 0 ∧ b = 0 ∧ c = 0)
theorem run_eql_ins (op a b c : Int) (w : World) : (binOp .eql 37 (.agg #[.int .i64 op, .int .i64 a, .int .i64 b, .int .i64 c]) (.agg #[.int .i64 0, .int .i64 0, .int .i64 0, .int .i64 0])).run Try.prog w = .ok (.bool (nilIns op a b c)) w := by
  rw [run_eql_struct, run_equalIn_agg w _ _ _ _ (by kernel_rfl) (by kernel_rfl)]
  simp only [Program.fieldsOf, Try.underlying37]
  have e3 : ∀ a b : Int, (Op.equalIn 9999 3 (.int .i64 a) (.int .i64 b)).run Try.prog w = .ok (a == b) w := fun a b => run_equalIn_int w 9998 3 .i64 .i64 a b Try.underlying3
  have p0 : ∀ op a b c : Int, (part 3 #[.int .i64 op, .int .i64 a, .int .i64 b, .int .i64 c] 0).run Try.prog w = .ok (.int .i64 op) w := fun _ _ _ _ => part3r rfl w
  have p1 : ∀ op a b c : Int, (part 3 #[.int .i64 op, .int .i64 a, .int .i64 b, .int .i64 c] 1).run Try.prog w = .ok (.int .i64 a) w := fun _ _ _ _ => part3r rfl w
  have p2 : ∀ op a b c : Int, (part 3 #[.int .i64 op, .int .i64 a, .int .i64 b, .int .i64 c] 2).run Try.prog w = .ok (.int .i64 b) w := fun _ _ _ _ => part3r rfl w
  have p3 : ∀ op a b c : Int, (part 3 #[.int .i64 op, .int .i64 a, .int .i64 b, .int .i64 c] 3).run Try.prog w = .ok (.int .i64 c) w := fun _ _ _ _ => part3r rfl w
  unfold nilIns
  simp [Op.eqFields, Sem.run_bind]
  simp only [p0, p1, p2, p3, e3, Result.andThen_ok]
  by_cases h0 : op = 0 <;> by_cases h1 : a = 0 <;> by_cases h2 : b = 0 <;> by_cases h3 : c = 0 <;> simp [h0, h1, h2, h3]
/-- A place has nothing but a label. -/
def bareB (x : Ln) : Bool := nilIns x.op x.a x.b x.c && noTxt x.target && inZ 1 12 (x.label.size : Int)

set_option maxRecDepth 100000 in
set_option maxHeartbeats 4000000 in
theorem isBare_any (lb tg : ByteArray) (op a b c : Int) (w : World) :
    Calls Try.prog 26 #[.agg #[.string lb, .int .i64 op, .int .i64 a, .int .i64 b, .int .i64 c, .string tg]] w fun e w' => e = .returned (.bool (bareB ⟨lb, op, a, b, c, tg⟩)) ∧ Below w.heap.size w w' := by
  have HE := fun z => hide (run_eql_ins op a b c z)
  have RB : Hid (bareB ⟨lb, op, a, b, c, tg⟩ = (nilIns op a b c && noTxt tg && inZ 1 12 (lb.size : Int))) := rfl
  have HB := hide ((Below.refl w.heap.size w).alloc (Nat.le_refl _) (.cells #[.string lb, .int .i64 op, .int .i64 a, .int .i64 b, .int .i64 c, .string tg] 39))
  obtain ⟨r, er⟩ : ∃ r, bareB ⟨lb, op, a, b, c, tg⟩ = r := ⟨_, rfl⟩
  rw [er] at RB ⊢
  clear er
  obtain ⟨q, eq⟩ : ∃ q, nilIns op a b c = q := ⟨_, rfl⟩
  rw [eq] at RB HE
  have hE := fun z => (HE z).out
  clear eq HE
  cases q with
  | false =>
    obtain rfl : r = false := by rw [RB.out]; rfl
    go_enter Try.func26, Try.ntmps26
    go_wp2
    go_ret
    exact ⟨rfl, HB.out⟩
  | true =>
    cases ht : noTxt tg with
    | false =>
      have ht2 := noTxt_no ht
      obtain rfl : r = false := by rw [RB.out, ht]; rfl
      clear ht
      go_enter Try.func26, Try.ntmps26
      go_wp2
      go_ret
      exact ⟨rfl, HB.out⟩
    | true =>
      obtain rfl := noTxt_yes ht
      by_cases h1 : (1 : Int) ≤ (lb.size : Int)
      · obtain rfl : r = decide ((lb.size : Int) ≤ 12) := by rw [RB.out, ht]; simp [inZ, h1]
        clear ht
        go_enter Try.func26, Try.ntmps26
        go_wp2
        go_ret
        exact ⟨rfl, HB.out⟩
      · obtain rfl : r = false := by rw [RB.out, ht]; simp [inZ]; omega
        clear ht
        go_enter Try.func26, Try.ntmps26
        go_wp2
        go_ret
        exact ⟨rfl, HB.out⟩

theorem bxs4 (w z : World) (u0 u1 u2 u3 c0 c1 c2 c3 : Value) {t : Nat} (hb : Below w.heap.size w z) {G : Nat} (hG : w.heap.size ≤ G) (hx : Box z G #[c0, c1, c2, c3] t) : Box ((((z.setCell ⟨G, 0, none⟩ u0).setCell ⟨G, 1, none⟩ u1).setCell ⟨G, 2, none⟩ u2).setCell ⟨G, 3, none⟩ u3) G #[u0, u1, u2, u3] t ∧ Below w.heap.size w ((((z.setCell ⟨G, 0, none⟩ u0).setCell ⟨G, 1, none⟩ u1).setCell ⟨G, 2, none⟩ u2).setCell ⟨G, 3, none⟩ u3) := ⟨by simpa using (((hx.set 0 u0).set 1 u1).set 2 u2).set 3 u3, (((hb.setCell (p := ⟨G, 0, none⟩) hG _).setCell (p := ⟨G, 1, none⟩) hG _).setCell (p := ⟨G, 2, none⟩) hG _).setCell (p := ⟨G, 3, none⟩) hG _⟩

set_option maxRecDepth 100000 in
set_option maxHeartbeats 4000000 in
theorem asked_any (lb tg : ByteArray) (op a b c : Int) (w : World) :
    Calls Try.prog 28 #[.agg #[.string lb, .int .i64 op, .int .i64 a, .int .i64 b, .int .i64 c, .string tg]] w fun e w' => e = .returned (.agg #[.int .i64 op, .int .i64 a, .int .i64 b, .int .i64 (cOf ⟨lb, op, a, b, c, tg⟩)]) ∧ Below w.heap.size w w' := by
  cases ht : noTxt tg with
  | true =>
    have hc : cOf ⟨lb, op, a, b, c, tg⟩ = c := by simp [cOf, ht]
    obtain rfl := noTxt_yes ht
    rw [hc]
    clear hc ht
    go_enter Try.func28, Try.ntmps28
    go_wp2
    go_returns
    exact ⟨rfl, by go_grown⟩
  | false =>
    have ht2 := noTxt_no ht
    by_cases h4 : op = 4
    · have hc : cOf ⟨lb, op, a, b, c, tg⟩ = c := by simp [cOf, h4]
      rw [hc]
      subst h4
      clear hc ht
      go_enter Try.func28, Try.ntmps28
      go_wp2
      go_returns
      exact ⟨rfl, by go_grown⟩
    · have hc : cOf ⟨lb, op, a, b, c, tg⟩ = 0 := by simp [cOf, h4, ht]
      rw [hc]
      have ht3 : tg.toList.isEmpty = false := by simpa using ht2
      have h4b : (op != 4) = true := by simpa using h4
      clear hc ht h4
      go_enter Try.func28, Try.ntmps28
      go_wp2
      go_returns
      exact ⟨rfl, by go_grown⟩

/-- Whether a line is right among labels: as the program asks it. -/
theorem fit_bare {xs : List Ln} {x : Ln} (ho : x.op = 0) : fitB xs x = bareB x := by
  unfold fitB bareB nilIns
  rw [if_pos ho, Bool.eq_iff_iff]
  simp [ho, and_assoc]

set_option maxRecDepth 100000 in
set_option maxHeartbeats 8000000 in
theorem fits_any (b n : Nat) (xs : List Ln) (x : Ln) (w : World) (h : LabAt w b n xs xs.length) (hs : x.target.size ≤ 1048576) :
    Calls Try.prog 21 #[.agg #[.string x.label, .int .i64 x.op, .int .i64 x.a, .int .i64 x.b, .int .i64 x.c, .string x.target], .map (some b)] w fun e w' => e = .returned (.bool (fitB xs x)) ∧ Below w.heap.size w w' := by
  obtain ⟨lb, op, a, b', c, tg⟩ := x
  dsimp only at hs ⊢
  have CW := fun z => hide (isWord_any lb tg op a b' c z)
  have CB := fun z => hide (isBare_any lb tg op a b' c z)
  have CA := fun z => hide (asked_any lb tg op a b' c z)
  have CO := fun c z => hide (implInsOk_any op a b' c z)
  have CH := fun z h => hide (labHas_any b n xs xs.length tg z h hs)
  rw [inTo_all] at CH
  have RB : Hid (op ≠ 0 → fitB xs ⟨lb, op, a, b', c, tg⟩ = (noTxt lb && insB op a b' (cOf ⟨lb, op, a, b', c, tg⟩) && (noTxt tg || decide (0 ≤ firstL xs tg)))) := fun ho => by unfold fitB; rw [if_neg ho]
  have HB := hide ((Below.refl w.heap.size w).alloc (Nat.le_refl _) (.cells #[.string lb, .int .i64 op, .int .i64 a, .int .i64 b', .int .i64 c, .string tg] 39))
  have H := hide h
  have hlt := h.lt
  clear h hs
  obtain ⟨W1, hW⟩ : ∃ W1, w.alloc (.cells #[.string lb, .int .i64 op, .int .i64 a, .int .i64 b', .int .i64 c, .string tg] 39) = W1 := ⟨_, rfl⟩
  have BX : Hid (Box W1 w.heap.size #[.string lb, .int .i64 op, .int .i64 a, .int .i64 b', .int .i64 c, .string tg] 39) := by rw [← hW]; exact hide (Box.made w _ _)
  rw [hW] at HB
  have HW := hide hW
  clear hW
  by_cases ho : op = 0
  · have HF := hide (fit_bare (xs := xs) (x := ⟨lb, op, a, b', c, tg⟩) ho)
    rw [HF.out]
    obtain ⟨r, er⟩ : ∃ r, bareB ⟨lb, op, a, b', c, tg⟩ = r := ⟨_, rfl⟩
    rw [er] at CB ⊢
    subst ho
    rw [decide_eq_false (fun h => h rfl)] at CW
    clear er HF RB CA CO CH
    go_enter Try.func21, Try.ntmps21
    go_upto_region 1 with fail
    rw [HW.out]
    have q0 := Lib.cell_of_heap BX.out 0
    have q1 := Lib.cell_of_heap BX.out 1
    have q2 := Lib.cell_of_heap BX.out 2
    have q3 := Lib.cell_of_heap BX.out 3
    have q4 := Lib.cell_of_heap BX.out 4
    have q5 := Lib.cell_of_heap BX.out 5
    simp at q0 q1 q2 q3 q4 q5
    go_wp2_with fail
    refine (unhide (CW _)).mono ?_
    rintro e z ⟨rfl, hz⟩
    have hb1 : Below W1.heap.size W1 z := by rw [hz]; exact (Below.refl _ _).alloc (Nat.le_refl _) _
    have BX1 := hide (BX.out.stays hb1)
    have HB1 := hide (HB.out.trans (hb1.mono HB.out.size))
    clear q0 q1 q2 q3 q4 q5 hz hb1 BX HB
    have q0 := Lib.cell_of_heap BX1.out 0
    have q1 := Lib.cell_of_heap BX1.out 1
    have q2 := Lib.cell_of_heap BX1.out 2
    have q3 := Lib.cell_of_heap BX1.out 3
    have q4 := Lib.cell_of_heap BX1.out 4
    have q5 := Lib.cell_of_heap BX1.out 5
    simp at q0 q1 q2 q3 q4 q5
    go_wp2_with (go_at_call 26; refine (unhide (CB _)).mono ?_; rintro e z2 ⟨rfl, hb2⟩; have HB2 := hide (HB1.out.trans (hb2.mono HB1.out.size)); clear hb2)
    go_ret
    exact ⟨rfl, HB2.out⟩
  · rw [RB.out ho]
    rw [decide_eq_true (p := op ≠ 0) ho] at CW
    obtain ⟨cc, ecc⟩ : ∃ cc, cOf ⟨lb, op, a, b', c, tg⟩ = cc := ⟨_, rfl⟩
    rw [ecc] at CA ⊢
    have CO1 := CO cc
    obtain ⟨iv, eiv⟩ : ∃ iv, insB op a b' cc = iv := ⟨_, rfl⟩
    rw [eiv] at CO1 ⊢
    obtain ⟨fv, efv⟩ : ∃ fv, decide (0 ≤ firstL xs tg) = fv := ⟨_, rfl⟩
    rw [efv] at CH ⊢
    clear RB CB CO ecc eiv efv ho
    go_enter Try.func21, Try.ntmps21
    go_upto_region 1 with fail
    rw [HW.out]
    have q0 := Lib.cell_of_heap BX.out 0
    have q1 := Lib.cell_of_heap BX.out 1
    have q2 := Lib.cell_of_heap BX.out 2
    have q3 := Lib.cell_of_heap BX.out 3
    have q4 := Lib.cell_of_heap BX.out 4
    have q5 := Lib.cell_of_heap BX.out 5
    simp at q0 q1 q2 q3 q4 q5
    go_wp2_with fail
    refine (unhide (CW _)).mono ?_
    rintro e z ⟨rfl, hz⟩
    have hb1 : Below W1.heap.size W1 z := by rw [hz]; exact (Below.refl _ _).alloc (Nat.le_refl _) _
    have BX1 := hide (BX.out.stays hb1)
    have HB1 := hide (HB.out.trans (hb1.mono HB.out.size))
    clear q0 q1 q2 q3 q4 q5 hz hb1 BX HB
    have q0 := Lib.cell_of_heap BX1.out 0
    have q1 := Lib.cell_of_heap BX1.out 1
    have q2 := Lib.cell_of_heap BX1.out 2
    have q3 := Lib.cell_of_heap BX1.out 3
    have q4 := Lib.cell_of_heap BX1.out 4
    have q5 := Lib.cell_of_heap BX1.out 5
    simp at q0 q1 q2 q3 q4 q5
    cases hl : noTxt lb with
    | false =>
      have hl2 := noTxt_no hl
      have hl3 : lb.toList.isEmpty = false := by simpa using hl2
      have HLn := hide hl
      clear hl CA CO1 CH
      go_wp2
      go_ret
      exact ⟨by rw [HLn.out]; rfl, HB1.out⟩
    | true =>
      obtain rfl := noTxt_yes hl
      clear hl
      cases iv with
      | false =>
        clear CH
        cases ht : noTxt tg with
        | false =>
          have ht2 := noTxt_no ht
          clear ht
          go_wp2_with (first
            | (go_at_call 28; refine (unhide (CA _)).mono ?_; rintro e z2 ⟨rfl, hb2⟩; have HB2 := hide (HB1.out.trans (hb2.mono HB1.out.size)); clear hb2)
            | (go_at_call 27; refine (unhide (CO1 _)).mono ?_; rintro e z3 ⟨rfl, hz3⟩; have HB3 : Hid (Below w.heap.size w z3) := (by rw [hz3]; exact (HB2.out.alloc HB2.out.size _).alloc (HB2.out.alloc HB2.out.size _).size _); clear hz3))
          go_ret
          exact ⟨rfl, HB3.out⟩
        | true =>
          obtain rfl := noTxt_yes ht
          clear ht
          go_wp2_with (first
            | (go_at_call 28; refine (unhide (CA _)).mono ?_; rintro e z2 ⟨rfl, hb2⟩; have HB2 := hide (HB1.out.trans (hb2.mono HB1.out.size)); clear hb2)
            | (go_at_call 27; refine (unhide (CO1 _)).mono ?_; rintro e z3 ⟨rfl, hz3⟩; have HB3 : Hid (Below w.heap.size w z3) := (by rw [hz3]; exact (HB2.out.alloc HB2.out.size _).alloc (HB2.out.alloc HB2.out.size _).size _); clear hz3))
          go_ret
          exact ⟨rfl, HB3.out⟩
      | true =>
        cases ht : noTxt tg with
        | false =>
          have ht2 := noTxt_no ht
          have ht3 : tg.toList.isEmpty = false := by simpa using ht2
          have HTn := hide ht
          clear ht
          go_wp2_with (first
            | (go_at_call 28; refine (unhide (CA _)).mono ?_; rintro e z2 ⟨rfl, hb2⟩; have HB2 := hide (HB1.out.trans (hb2.mono HB1.out.size)); have BX2 := hide (BX1.out.stays hb2); clear hb2)
            | (go_at_call 27; refine (unhide (CO1 _)).mono ?_; rintro e z3 ⟨rfl, hz3⟩; have HBQ : Below z2.heap.size z2 z3 := (by rw [hz3]; go_grown); have HB3 := hide (HB2.out.trans (HBQ.mono HB2.out.size)); have r5 := Lib.cell_of_heap (BX2.out.stays HBQ) 5; simp at r5; have HM3 := hide (H.out.stays HB3.out hlt); clear hz3 HBQ)
            | (go_at_call 25; refine (unhide (CH _ HM3.out)).mono ?_; rintro e z4 ⟨rfl, rfl⟩))
          go_ret
          exact ⟨by rw [HTn.out]; cases fv <;> rfl, HB3.out⟩
        | true =>
          obtain rfl := noTxt_yes ht
          clear ht CH
          go_wp2_with (first
            | (go_at_call 28; refine (unhide (CA _)).mono ?_; rintro e z2 ⟨rfl, hb2⟩; have HB2 := hide (HB1.out.trans (hb2.mono HB1.out.size)); have BX2 := hide (BX1.out.stays hb2); clear hb2)
            | (go_at_call 27; refine (unhide (CO1 _)).mono ?_; rintro e z3 ⟨rfl, hz3⟩; have HBQ : Below z2.heap.size z2 z3 := (by rw [hz3]; go_grown); have HB3 := hide (HB2.out.trans (HBQ.mono HB2.out.size)); have r5 := Lib.cell_of_heap (BX2.out.stays HBQ) 5; simp at r5; clear hz3 HBQ))
          go_ret
          exact ⟨by first | rfl | (cases fv <;> rfl), HB3.out⟩
end Go.Proofs.Ytgmihgnbhjgghaa

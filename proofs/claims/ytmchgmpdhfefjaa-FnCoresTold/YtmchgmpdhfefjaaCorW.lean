/-
  Walks: a core, by the specification: what a word touches, a new one, a right one.
-/
import Derived.Test.YtmchgmpdhfefjaaFlC
import Derived.Test.YtmchgmpdhfefjaaCalcS
namespace Go.Proofs.Ytmchgmpdhfefjaa
open Go.RowKit

set_option maxRecDepth 100000 in
set_option maxHeartbeats 4000000 in
theorem specTouchOf_any (v : Value) (xs : List Int) (pc : Int) (w : World) (h : IntsAt w v xs) (hl : xs.length ≤ 1048576) :
    Calls Try.prog 20 #[v, .int .i64 pc] w fun e w' => e = .returned (.int .i64 (touchE xs pc)) ∧ Below w.heap.size w w' := by
  have CI := fun lo hi x z => hide (specInI x lo hi z)
  have HT : Hid (touchE xs pc = if inZ 0 ((xs.length : Int) - 1) pc = true then touchN (xs.getD pc.toNat 0) else -1) := rfl
  obtain ⟨r, er⟩ : ∃ r, touchE xs pc = r := ⟨_, rfl⟩
  rw [er] at HT ⊢
  clear er
  have HA := hide h
  obtain ⟨o, c, rfl, hx⟩ := h
  by_cases hq : inZ 0 ((xs.length : Int) - 1) pc = true
  · have hk := inZ_yes.1 hq
    obtain ⟨i, rfl⟩ : ∃ i : Nat, pc = (i : Int) := ⟨pc.toNat, by omega⟩
    have hin : i < xs.length := by omega
    obtain ⟨a, rfl, ha, hc⟩ := hx i hin
    have er : r = touchN xs[i] := by rw [HT.out, if_pos hq, Int.toNat_natCast, List.getD_eq_getElem?_getD, List.getElem?_eq_getElem hin]; rfl
    have ER := hide er
    clear er HT hx
    obtain ⟨k, ek⟩ : ∃ k, xs[i] = k := ⟨_, rfl⟩
    rw [ek] at hc ER
    clear ek
    obtain ⟨n, en⟩ : ∃ n, xs.length = n := ⟨_, rfl⟩
    rw [en] at hl hin hk hq ⊢
    clear en
    have CD := fun z => hide (specDecode_any k z)
    have h0 : (0 : Int) ≤ (i : Int) := by omega
    have h1 : (i : Int) < (n : Int) := by omega
    have hw : wrap64 ((n : Int) - 1) = (n : Int) - 1 := by unfold wrap64; omega
    have HE : Hid (decB k = true → decE k = ⟨decOp k, decA k, decBb k, decC k⟩) := fun h => by rw [decE, if_pos h]
    have HR : Hid (r = if decB k = true ∧ (decOp k = 2 ∨ decOp k = 3 ∨ decOp k = 9) then decC k else -1) := ER.out
    clear ER hk hin
    cases hb : decB k with
    | false =>
      simp only [hb] at CD
      obtain rfl : r = -1 := by rw [HR.out, if_neg (by rw [hb]; simp)]
      clear HE HR hb
      generalize (decE k).op = p0 at *
      generalize (decE k).a = p1 at *
      generalize (decE k).b = p2 at *
      generalize (decE k).c = p3 at *
      go_enter Try.func20, Try.ntmps20
      go_wp2_with (first | (go_at_call 34; refine (unhide (CI _ _ _ _)).mono ?_; rintro e z ⟨rfl, rfl⟩) | (go_at_call 11; refine (unhide (CD _)).mono ?_; rintro e z ⟨rfl, hb⟩; have HB := hide hb; clear hb))
      go_ret
      exact ⟨rfl, HB.out.alloc HB.out.size _⟩
    | true =>
      have he := HE.out hb
      simp only [hb, he] at CD
      have HR2 : Hid (r = if decOp k = 2 ∨ decOp k = 3 ∨ decOp k = 9 then decC k else -1) := by
        show _ = _
        rw [HR.out]
        simp [hb]
      clear HE HR hb he
      generalize decOp k = p0 at *
      generalize decA k = p1 at *
      generalize decBb k = p2 at *
      generalize decC k = p3 at *
      by_cases h2 : p0 = 2
      · subst h2
        obtain rfl : r = p3 := by rw [HR2.out]; simp
        go_enter Try.func20, Try.ntmps20
        go_wp2_with (first | (go_at_call 34; refine (unhide (CI _ _ _ _)).mono ?_; rintro e z ⟨rfl, rfl⟩) | (go_at_call 11; refine (unhide (CD _)).mono ?_; rintro e z ⟨rfl, hb⟩; have HB := hide hb; clear hb))
        go_ret
        exact ⟨rfl, HB.out.alloc HB.out.size _⟩
      by_cases h3 : p0 = 3
      · subst h3
        obtain rfl : r = p3 := by rw [HR2.out]; simp
        go_enter Try.func20, Try.ntmps20
        go_wp2_with (first | (go_at_call 34; refine (unhide (CI _ _ _ _)).mono ?_; rintro e z ⟨rfl, rfl⟩) | (go_at_call 11; refine (unhide (CD _)).mono ?_; rintro e z ⟨rfl, hb⟩; have HB := hide hb; clear hb))
        go_ret
        exact ⟨rfl, HB.out.alloc HB.out.size _⟩
      by_cases h9 : p0 = 9
      · subst h9
        obtain rfl : r = p3 := by rw [HR2.out]; simp
        go_enter Try.func20, Try.ntmps20
        go_wp2_with (first | (go_at_call 34; refine (unhide (CI _ _ _ _)).mono ?_; rintro e z ⟨rfl, rfl⟩) | (go_at_call 11; refine (unhide (CD _)).mono ?_; rintro e z ⟨rfl, hb⟩; have HB := hide hb; clear hb))
        go_ret
        exact ⟨rfl, HB.out.alloc HB.out.size _⟩
      · obtain rfl : r = -1 := by rw [HR2.out, if_neg (by simp [h2, h3, h9])]
        have n2 : (p0 != 2) = true := by simp [h2]
        have n3 : (p0 != 3) = true := by simp [h3]
        have n9 : (p0 != 9) = true := by simp [h9]
        go_enter Try.func20, Try.ntmps20
        go_wp2_with (first | (go_at_call 34; refine (unhide (CI _ _ _ _)).mono ?_; rintro e z ⟨rfl, rfl⟩) | (go_at_call 11; refine (unhide (CD _)).mono ?_; rintro e z ⟨rfl, hb⟩; have HB := hide hb; clear hb))
        go_ret
        exact ⟨rfl, HB.out.alloc HB.out.size _⟩
  · replace hq : inZ 0 ((xs.length : Int) - 1) pc = false := by simpa using hq
    obtain rfl : r = -1 := by rw [HT.out, if_neg (by rw [hq]; simp)]
    clear HT hx HA
    have hw : wrap64 ((xs.length : Int) - 1) = (xs.length : Int) - 1 := by unfold wrap64; omega
    go_enter Try.func20, Try.ntmps20
    go_wp2_with (go_at_call 34; refine (unhide (CI _ _ _ _)).mono ?_; rintro e z ⟨rfl, rfl⟩)
    go_ret
    exact ⟨rfl, Below.refl _ _⟩

set_option maxRecDepth 100000 in
set_option maxHeartbeats 4000000 in
theorem specCoreNew_any (w : World) :
    Calls Try.prog 41 #[] w fun e w' => ∃ r0, e = .returned (.agg #[r0, .int .i64 coreNewE.pc, .int .i64 coreNewE.process]) ∧ CoOwn w.heap.size w' r0 coreNewE ∧ Below w.heap.size w w' := by
  have hs : ∀ o, (w.alloc o).heap.size = w.heap.size + 1 := by simp
  have hmk := makeI_run 8 (by omega) (w.alloc (.cells #[.slice none 0 0, .int .i64 0, .int .i64 0] 26))
  have hb1 : Below w.heap.size w (w.alloc (.cells #[.slice (some ⟨w.heap.size + 1, 0, none⟩) 8 8, .int .i64 0, .int .i64 (-1)] 26)) := (Below.refl _ _).alloc (Nat.le_refl _) _
  have ow := made_own (w.alloc (.cells #[.slice (some ⟨w.heap.size + 1, 0, none⟩) 8 8, .int .i64 0, .int .i64 (-1)] 26)) w.heap.size 8 hb1.size (by omega)
  have BX := hide ((Box.made w #[.slice (some ⟨w.heap.size + 1, 0, none⟩) 8 8, .int .i64 0, .int .i64 (-1)] 26).stays ((Below.refl _ _).alloc (Nat.le_refl _) (.cells (madeCells #[.int .i64 0] 8) 3)))
  have HB := hide (hb1.alloc hb1.size (.cells (madeCells #[.int .i64 0] 8) 3))
  rw [hs] at ow hmk
  have OW := hide ow
  clear ow hb1 hs
  obtain ⟨M, hM⟩ : ∃ M, madeCells #[.int .i64 0] 8 = M := ⟨_, rfl⟩
  rw [hM] at BX HB OW
  simp only [Int.cast_ofNat_Int, hM] at hmk
  clear hM
  go_enter Try.func41, Try.ntmps41
  go_wp2
  refine box_ret (g := w.heap.size) (t := 26) (cs := #[.slice (some ⟨w.heap.size + 1, 0, none⟩) 8 8, .int .i64 0, .int .i64 (-1)]) rfl rfl ?_ _ Try.underlying26 rfl (by kernel_rfl) rfl ?_
  · exact BX.out
  · exact ⟨_, rfl, ⟨OW.out⟩, HB.out⟩

theorem all_take {xs : List Int} {f : Int → Bool} {i : Nat} (h : i < xs.length) : (xs.take (i + 1)).all f = ((xs.take i).all f && f xs[i]) := by
  rw [List.take_succ_eq_append_getElem h, List.all_append]
  simp
theorem all_no {xs : List Int} {f : Int → Bool} {i : Nat} (h : i < xs.length) (hf : f xs[i] = false) : xs.all f = false := by
  rw [Bool.eq_false_iff]
  intro h1
  rw [List.all_eq_true] at h1
  have := h1 _ (List.getElem_mem h)
  rw [hf] at this
  cases this
def CkR (w : World) (v0 : Value) (x : Co) (iv : Value) (z : World) : Prop := ∃ i : Nat, i ≤ x.regs.length ∧ iv = .int .i64 (i : Int) ∧ Hid ((x.regs.take i).all vok = true) ∧ z = w.alloc (.cells #[v0, .int .i64 x.pc, .int .i64 x.process] 26)

set_option maxRecDepth 100000 in
set_option maxHeartbeats 4000000 in
theorem specCoreOk_any (v0 : Value) (x : Co) (w : World) (h : CoAt w v0 x) (hl : CoLen x) :
    Calls Try.prog 18 #[.agg #[v0, .int .i64 x.pc, .int .i64 x.process]] w fun e w' => e = .returned (.bool (coreOkB x)) ∧ Below w.heap.size w w' := by
  have CI := fun lo hi x z => hide (specInI x lo hi z)
  have CV := fun n z => hide (specValOk n z)
  have L0 := hl.l0
  have hb1 : Below w.heap.size w (w.alloc (.cells #[v0, .int .i64 x.pc, .int .i64 x.process] 26)) := (Below.refl _ _).alloc (Nat.le_refl _) _
  have HB := hide hb1
  have HA := hide (h.stays hb1)
  have HR : Hid (coreOkB x = (x.regs.all vok && (x.regs.length == 8 && decide (0 ≤ x.pc) && inZ (-1) 3 x.process))) := rfl
  obtain ⟨r, er⟩ : ∃ r, coreOkB x = r := ⟨_, rfl⟩
  rw [er] at HR ⊢
  clear er hb1 hl
  obtain ⟨o, c, rfl, _⟩ := h.a0
  clear h
  obtain ⟨n, en⟩ : ∃ n, x.regs.length = n := ⟨_, rfl⟩
  have EN := hide en
  rw [en] at L0 HB ⊢
  have HA' := hide HA.out
  rw [en] at HA'
  clear en HA
  obtain ⟨pc, epc⟩ : ∃ p, x.pc = p := ⟨_, rfl⟩
  obtain ⟨pr, epr⟩ : ∃ p, x.process = p := ⟨_, rfl⟩
  have EP := hide (And.intro epc epr)
  rw [epc, epr] at HB HR HA' ⊢
  clear epc epr
  go_enter Try.func18, Try.ntmps18
  go_wp2_with fail
  go_loopw [3] (fun iv z => CkR w (.slice o n c) x iv z) (fun iv _ => n - (intOf iv).toNat)
  case atStart => exact ⟨0, by omega, rfl, rfl, by rw [EP.out.1, EP.out.2]⟩
  case round =>
    obtain ⟨i, hi, rfl, HF, rfl⟩ := hrel
    rw [EN.out] at hi
    rw [EP.out.1, EP.out.2]
    by_cases hlt : i < n
    · have hlt' : (i : Int) < (n : Int) := by omega
      have hi0 : (0 : Int) ≤ (i : Int) := by omega
      have hin : i < x.regs.length := by rw [EN.out]; exact hlt
      obtain ⟨o', c', e1, hc1⟩ := HA'.out.a0
      injection e1 with e2 e3 e4
      subst e2
      obtain ⟨a, rfl, ha, hx⟩ := hc1 i hin
      have HN := hide fun h => all_no (f := vok) hin h
      have HY := hide (all_take (f := vok) hin)
      obtain ⟨k, ek⟩ : ∃ k, x.regs[i] = k := ⟨_, rfl⟩
      rw [ek] at hx HN HY
      clear hc1 e3 e4 ek
      have CK := fun z => hide (CV k z)
      clear CV
      cases hk : vok k with
      | false =>
        have e9 := HN.out hk
        obtain rfl : r = false := by rw [HR.out, e9]; rfl
        clear HN HY e9 HR
        have CK2 := fun z => hide (CK z).out.out
        simp only [hk] at CK2
        clear hk CK
        go_wp2_with (go_at_call 39; refine (unhide (CK2 _)).mono ?_; rintro e z ⟨rfl, rfl⟩)
        go_ret
        exact ⟨rfl, HB.out⟩
      | true =>
        have HF2 : Hid ((x.regs.take (i + 1)).all vok = true) := by
          show _ = _
          rw [HY.out, HF.out, hk]
          rfl
        clear HN HY HF HR
        have CK2 := fun z => hide (CK z).out.out
        simp only [hk] at CK2
        clear hk CK
        go_wp2_with (go_at_call 39; refine (unhide (CK2 _)).mono ?_; rintro e z ⟨rfl, rfl⟩)
        go_roundw
        case rel => exact ⟨i + 1, by rw [EN.out]; omega, by go_num, HF2, by rw [EP.out.1, EP.out.2]⟩
        case measure => simp [intOf]; omega
    · have hlt' : ¬ (i : Int) < (n : Int) := by omega
      have HR2 : Hid (r = (n == 8 && decide (0 ≤ pc) && inZ (-1) 3 pr)) := by
        show _ = _
        have e9 := HF.out
        rw [List.take_of_length_le (by rw [EN.out]; omega)] at e9
        rw [HR.out, e9, EN.out]
        rfl
      clear HR HF
      by_cases h8 : n = 8
      · by_cases hp : 0 ≤ pc
        · obtain rfl : r = inZ (-1) 3 pr := by rw [HR2.out]; simp [h8, hp]
          have h8' : (n : Int) = 8 := by omega
          have HB8 := hide HB.out
          rw [h8] at HB8
          go_wp2_with (go_at_call 34; refine (unhide (CI _ _ _ _)).mono ?_; rintro e z ⟨rfl, rfl⟩)
          go_ret
          exact ⟨rfl, HB8.out⟩
        · obtain rfl : r = false := by rw [HR2.out]; simp [hp]
          have h8' : (n : Int) = 8 := by omega
          have HB8 := hide HB.out
          rw [h8] at HB8
          go_wp2_with (go_at_call 34; refine (unhide (CI _ _ _ _)).mono ?_; rintro e z ⟨rfl, rfl⟩)
          go_ret
          exact ⟨rfl, HB8.out⟩
      · obtain rfl : r = false := by rw [HR2.out]; simp [h8]
        have h8' : ¬ (n : Int) = 8 := by omega
        go_wp2_with (go_at_call 34; refine (unhide (CI _ _ _ _)).mono ?_; rintro e z ⟨rfl, rfl⟩)
        go_ret
        exact ⟨rfl, HB.out⟩
end Go.Proofs.Ytmchgmpdhfefjaa

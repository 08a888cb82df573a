/-
  Walk: right lines, by the specification.
-/
import Derived.Test.YtgmihgnbhjgghaaCopE
import Derived.Test.YtgmihgnbhjgghaaLinW
import Derived.Test.YtgmihgnbhjgghaaInsW
import Derived.Deep.Cut
namespace Go.Proofs.Ytgmihgnbhjgghaa
open Go.RowKit

def LoR (w : World) (xs : List Ln) (iv : Value) (wr : World) : Prop :=
  ∃ i : Nat, i ≤ xs.length ∧ iv = .int .i64 (i : Int) ∧ Hid (Below w.heap.size w wr) ∧ Hid (LinesTo xs i)

set_option maxRecDepth 100000 in
set_option maxHeartbeats 8000000 in
theorem specLinesOk_any (v : Value) (xs : List Ln) (w : World) (h : LnsAt w v xs) (hl : xs.length ≤ 1048576) :
    Calls Try.prog 7 #[v] w fun e w' => e = .returned (.bool (linesB xs)) ∧ Below w.heap.size w w' := by
  have H := hide h
  have CF := fun s z h => hide (specFirst_any v xs s z h hl)
  obtain ⟨ao, c, rfl, _⟩ := h
  obtain ⟨n, en⟩ : ∃ n, xs.length = n := ⟨_, rfl⟩
  have EN := hide en
  rw [en] at H hl CF ⊢
  clear en
  go_enter Try.func7, Try.ntmps7
  go_wp2
  go_loopw [3] (LoR w xs) (fun iv _ => n - (intOf iv).toNat)
  case atStart => exact ⟨0, by omega, rfl, hide (Below.refl _ _), hide fun _ _ h => absurd h (Nat.not_lt_zero _)⟩
  case round =>
    obtain ⟨i, hi, rfl, HB, HT⟩ := hrel
    rw [EN.out] at hi
    by_cases hlt : i < n
    · have hlt' : (i : Int) < (n : Int) := by omega
      have hi0 : (0 : Int) ≤ (i : Int) := by omega
      have hix : i < xs.length := by rw [EN.out]; exact hlt
      have hwi : wrap64 ((i : Int) + 1) = (i : Int) + 1 := by unfold wrap64; omega
      have HA := hide (H.out.stays HB.out)
      obtain ⟨ao', cc, e5, hc⟩ := HA.out
      injection e5 with e6 e7 e8
      subst e6
      obtain ⟨a, rfl, hab, d0, d1, d2, d3, d4, d5⟩ := hc i hix
      have HBAD : Hid (lineB xs i xs[i] = false → linesB xs = false) := hide fun k => lines_bad hix k
      have HGO : Hid (lineB xs i xs[i] = true → LinesTo xs (i + 1)) := hide fun k => HT.out.step fun _ => k
      obtain ⟨⟨lb, op, x1, x2, x3, tg⟩, ey⟩ : ∃ y, xs[i] = y := ⟨_, rfl⟩
      rw [ey] at d0 d1 d2 d3 d4 d5 HBAD HGO
      dsimp only at d0 d1 d2 d3 d4 d5
      clear hc e7 e8 ey hix
      obtain ⟨W1, hW⟩ : ∃ W1, wr.alloc (.cells #[.string lb, .int .i64 op, .int .i64 x1, .int .i64 x2, .int .i64 x3, .string tg] 39) = W1 := ⟨_, rfl⟩
      have hb1 : Below wr.heap.size wr W1 := by rw [← hW]; exact (Below.refl _ _).alloc (Nat.le_refl _) _
      have HB1 := hide (HB.out.trans (hb1.mono HB.out.size))
      have HA1 := hide (HA.out.stays hb1)
      have BL : Hid (Box W1 wr.heap.size #[.string lb, .int .i64 op, .int .i64 x1, .int .i64 x2, .int .i64 x3, .string tg] 39) := by rw [← hW]; exact hide (Box.made wr _ _)
      have HW := hide hW
      clear hW hb1
      go_upto_region 5 with fail
      rw [HW.out]
      obtain ⟨G, eG⟩ : ∃ G, wr.heap.size = G := ⟨_, rfl⟩
      rw [eG] at BL ⊢
      clear d0 d1 d2 d3 d4 d5 HW
      have b0 := Lib.cell_of_heap BL.out 0
      have b1 := Lib.cell_of_heap BL.out 1
      have b2 := Lib.cell_of_heap BL.out 2
      have b3 := Lib.cell_of_heap BL.out 3
      have b4 := Lib.cell_of_heap BL.out 4
      have b5 := Lib.cell_of_heap BL.out 5
      simp at b0 b1 b2 b3 b4 b5
      by_cases ho : op = 0
      · subst ho
        by_cases h1 : x1 = 0
        case neg =>
          have HE := hide (HBAD.out (by simp [lineB, h1]))
          clear HBAD HGO
          go_wp2
          go_ret
          rw [HE.out]
          exact ⟨rfl, HB1.out⟩
        by_cases h2 : x2 = 0
        case neg =>
          subst h1
          have HE := hide (HBAD.out (by simp [lineB, h2]))
          clear HBAD HGO
          go_wp2
          go_ret
          rw [HE.out]
          exact ⟨rfl, HB1.out⟩
        by_cases h3 : x3 = 0
        case neg =>
          subst h1 h2
          have HE := hide (HBAD.out (by simp [lineB, h3]))
          clear HBAD HGO
          go_wp2
          go_ret
          rw [HE.out]
          exact ⟨rfl, HB1.out⟩
        subst h1 h2 h3
        cases ht : noTxt tg with
        | false =>
          have ht2 := noTxt_no ht
          have HE := hide (HBAD.out (by simp [lineB, ht]))
          clear HBAD HGO
          go_wp2
          go_ret
          rw [HE.out]
          exact ⟨rfl, HB1.out⟩
        | true =>
          have ht2 := noTxt_yes ht
          rw [ht2] at b5
          obtain ⟨z1, ez1⟩ : ∃ b, inZ 1 12 (lb.size : Int) = b := ⟨_, rfl⟩
          have CI := fun z => hide (specInI (lb.size : Int) 1 12 z)
          simp only [ez1] at CI
          obtain ⟨f, ef⟩ : ∃ f, firstL xs lb = f := ⟨_, rfl⟩
          have CF1 := hide (CF lb W1 HA1.out).out
          rw [ef] at CF1
          cases z1 with
          | false =>
            have HE := hide (HBAD.out (by simp [lineB, ht, ez1]))
            clear HBAD HGO
            go_wp2_with (first | (go_at_call 16; refine (unhide (CI _)).mono ?_; rintro e z ⟨rfl, rfl⟩) | (go_at_call 17; refine CF1.out.mono ?_; rintro e z ⟨rfl, ez⟩; rw [ez]; clear ez z))
            go_ret
            rw [HE.out]
            exact ⟨rfl, HB1.out⟩
          | true =>
            by_cases hf : f = (i : Int)
            · rw [hf] at CF1
              have HE := hide (HGO.out (by simp [lineB, ht, ez1, ef, hf]))
              clear HBAD HGO
              go_wp2_with (first | (go_at_call 16; refine (unhide (CI _)).mono ?_; rintro e z ⟨rfl, rfl⟩) | (go_at_call 17; refine CF1.out.mono ?_; rintro e z ⟨rfl, ez⟩; rw [ez]; clear ez z))
              go_roundw
              case rel => exact ⟨i + 1, by rw [EN.out]; omega, by go_num, HB1, HE⟩
              case measure => simp [intOf]; omega
            · have hf2 : (f != (i : Int)) = true := by simp [hf]
              have HE := hide (HBAD.out (by simp [lineB, ht, ez1, ef, hf]))
              clear HBAD HGO
              go_wp2_with (first | (go_at_call 16; refine (unhide (CI _)).mono ?_; rintro e z ⟨rfl, rfl⟩) | (go_at_call 17; refine CF1.out.mono ?_; rintro e z ⟨rfl, ez⟩; rw [ez]; clear ez z))
              go_ret
              rw [HE.out]
              exact ⟨rfl, HB1.out⟩
      · have ho2 : (op != 0) = true := by simp [ho]
        obtain ⟨W2, hW2⟩ : ∃ W2, W1.alloc (.cells #[.int .i64 op, .int .i64 x1, .int .i64 x2, .int .i64 x3] 37) = W2 := ⟨_, rfl⟩
        have hb2 : Below W1.heap.size W1 W2 := by rw [← hW2]; exact (Below.refl _ _).alloc (Nat.le_refl _) _
        have HB2 := hide (HB1.out.trans (hb2.mono HB1.out.size))
        have HA2 := hide (HA1.out.stays hb2)
        have BL2 := hide (BL.out.stays hb2)
        have BI : Hid (Box W2 W1.heap.size #[.int .i64 op, .int .i64 x1, .int .i64 x2, .int .i64 x3] 37) := by rw [← hW2]; exact hide (Box.made W1 _ _)
        have HGI : Hid (w.heap.size ≤ W1.heap.size ∧ G < W1.heap.size) := hide ⟨HB1.out.size, BL.out.lt⟩
        have HW2 := hide hW2
        clear hW2 hb2
        go_upto_region 9 with fail
        rw [HW2.out]
        obtain ⟨GI, eGI⟩ : ∃ G, W1.heap.size = G := ⟨_, rfl⟩
        have EGI := hide eGI
        rw [eGI] at BI HGI ⊢
        clear HW2 eGI b0 b1 b2 b3 b4 b5
        cases ht : noTxt tg with
        | true =>
          have ht2 := noTxt_yes ht
          have b0 := Lib.cell_of_heap BL2.out 0
          have b1 := Lib.cell_of_heap BL2.out 1
          have b2 := Lib.cell_of_heap BL2.out 2
          have b3 := Lib.cell_of_heap BL2.out 3
          have b4 := Lib.cell_of_heap BL2.out 4
          have b5 := Lib.cell_of_heap BL2.out 5
          have q0 := Lib.cell_of_heap BI.out 0
          have q1 := Lib.cell_of_heap BI.out 1
          have q2 := Lib.cell_of_heap BI.out 2
          have q3 := Lib.cell_of_heap BI.out 3
          have g3 := Lib.frozen_of_heap BI.out 3
          simp at b0 b1 b2 b3 b4 b5 q0 q1 q2 q3
          rw [ht2] at b5
          go_upto_region 13 with fail
          have HCO : Hid (cOf ⟨lb, op, x1, x2, x3, tg⟩ = x3) := hide (by simp [cOf, ht])
          obtain ⟨k, ek⟩ : ∃ b, insB op x1 x2 x3 = b := ⟨_, rfl⟩
          have CO := hide (specInsOk_any op x1 x2 x3 W2)
          rw [ek] at CO
          have hb4 : ∀ o, Below W2.heap.size W2 (W2.alloc o) := fun o => (Below.refl _ _).alloc (Nat.le_refl _) _
          have HB4 : Hid (∀ o, Below w.heap.size w (W2.alloc o)) := hide fun o => HB2.out.trans ((hb4 o).mono HB2.out.size)
          have CF4 := fun o => CF tg (W2.alloc o) (HA2.out.stays (hb4 o))
          have HBX4 := hide fun o => BL2.out.stays (hb4 o)
          clear hb4
          obtain ⟨f, ef⟩ : ∃ f, firstL xs tg = f := ⟨_, rfl⟩
          simp only [ef] at CF4
          cases hlb : noTxt lb with
          | false =>
            have hlb2 := noTxt_no hlb
            have HE := hide (HBAD.out (by simp [lineB, ho, hlb]))
            clear HBAD HGO
            go_wp2
            go_ret
            rw [HE.out]
            exact ⟨rfl, HB2.out⟩
          | true =>
            have hlb2 := noTxt_yes hlb
            rw [hlb2] at b0
            cases k with
            | false =>
              have HE := hide (HBAD.out (by simp [lineB, ho, HCO.out, ek]))
              clear HBAD HGO
              go_wp2_with (first | (go_at_call 18; refine CO.out.mono ?_; rintro e z ⟨rfl, ez⟩; rw [ez]; clear ez z; have r2 := Lib.cell_of_heap (HBX4.out (.cells #[.int .i64 op, .int .i64 x1, .int .i64 x2, .int .i64 x3] 37)) 5; simp at r2) | (go_at_call 17; refine (unhide (CF4 _)).mono ?_; rintro e z ⟨rfl, ez⟩; rw [ez]; clear ez z))
              go_ret
              rw [HE.out]
              exact ⟨rfl, HB4.out _⟩
            | true =>
              have HE := hide (HGO.out (by simp [lineB, ho, hlb, HCO.out, ek, ht]))
              clear HBAD HGO
              go_wp2_with (first | (go_at_call 18; refine CO.out.mono ?_; rintro e z ⟨rfl, ez⟩; rw [ez]; clear ez z; have r2 := Lib.cell_of_heap (HBX4.out (.cells #[.int .i64 op, .int .i64 x1, .int .i64 x2, .int .i64 x3] 37)) 5; simp at r2) | (go_at_call 17; refine (unhide (CF4 _)).mono ?_; rintro e z ⟨rfl, ez⟩; rw [ez]; clear ez z))
              go_roundw
              case rel => exact ⟨i + 1, by rw [EN.out]; omega, by go_num, hide (HB4.out _), HE⟩
              case measure => simp [intOf]; omega
        | false =>
          have ht2 := noTxt_no ht
          have ht3 : (tg.toList == ([] : List UInt8)) = false := by rw [Bool.eq_false_iff]; intro q; exact ht2 (by simpa using q)
          have ht4 : (tg.toList != ([] : List UInt8)) = true := by simp [ht2]
          have ht5 : tg.toList.isEmpty = false := by cases e : tg.toList with | nil => exact absurd e ht2 | cons _ _ => rfl
          have b0 := Lib.cell_of_heap BL2.out 0
          have b1 := Lib.cell_of_heap BL2.out 1
          have b2 := Lib.cell_of_heap BL2.out 2
          have b3 := Lib.cell_of_heap BL2.out 3
          have b4 := Lib.cell_of_heap BL2.out 4
          have b5 := Lib.cell_of_heap BL2.out 5
          have q0 := Lib.cell_of_heap BI.out 0
          have q1 := Lib.cell_of_heap BI.out 1
          have q2 := Lib.cell_of_heap BI.out 2
          have q3 := Lib.cell_of_heap BI.out 3
          have g3 := Lib.frozen_of_heap BI.out 3
          simp at b0 b1 b2 b3 b4 b5 q0 q1 q2 q3
          have HB5 := hide (HB2.out.setCell (p := ⟨GI, 3, none⟩) (by have := HGI.out; show w.heap.size ≤ GI; omega) (.int .i64 0))
          have BL5 := hide (BL2.out.other ⟨GI, 3, none⟩ (.int .i64 0) (by have := HGI.out; show G ≠ GI; omega))
          have BI5 := hide (BI.out.set 3 (.int .i64 0))
          have HA5 := hide (H.out.stays HB5.out)
          by_cases h4 : op = 4
          · subst h4
            have HB6 := hide (HB5.out.setCell (p := ⟨GI, 3, none⟩) (by have := HGI.out; show w.heap.size ≤ GI; omega) (.int .i64 x3))
            have BL6 := hide (BL5.out.other ⟨GI, 3, none⟩ (.int .i64 x3) (by have := HGI.out; show G ≠ GI; omega))
            have BI6 := hide (BI5.out.set 3 (.int .i64 x3))
            have HA6 := hide (H.out.stays HB6.out)
            have k3 := Lib.cell_of_heap BI5.out 3
            have k0 := Lib.cell_of_heap BI5.out 0
            have kg := Lib.frozen_of_heap BI5.out 3
            have kb := Lib.cell_of_heap BL5.out 4
            simp at k3 k0 kb
            go_upto_region 13 with fail
            obtain ⟨W6, hW6⟩ : ∃ W6, (W2.setCell ⟨GI, 3, none⟩ (.int .i64 0)).setCell ⟨GI, 3, none⟩ (.int .i64 x3) = W6 := ⟨_, rfl⟩
            rw [hW6] at HB6 BL6 BI6 HA6 ⊢
            clear b0 b1 b2 b3 b4 b5 q0 q1 q2 q3 g3 k3 k0 kg kb hW6
            have b0 := Lib.cell_of_heap BL6.out 0
            have b1 := Lib.cell_of_heap BL6.out 1
            have b2 := Lib.cell_of_heap BL6.out 2
            have b3 := Lib.cell_of_heap BL6.out 3
            have b4 := Lib.cell_of_heap BL6.out 4
            have b5 := Lib.cell_of_heap BL6.out 5
            have q0 := Lib.cell_of_heap BI6.out 0
            have q1 := Lib.cell_of_heap BI6.out 1
            have q2 := Lib.cell_of_heap BI6.out 2
            have q3 := Lib.cell_of_heap BI6.out 3
            have g3 := Lib.frozen_of_heap BI6.out 3
            simp at b0 b1 b2 b3 b4 b5 q0 q1 q2 q3
            have HCO : Hid (cOf ⟨lb, 4, x1, x2, x3, tg⟩ = x3) := hide (by simp [cOf, ht])
            obtain ⟨k, ek⟩ : ∃ b, insB 4 x1 x2 x3 = b := ⟨_, rfl⟩
            have CO := hide (specInsOk_any 4 x1 x2 x3 W6)
            rw [ek] at CO
            have hb4 : ∀ o, Below W6.heap.size W6 (W6.alloc o) := fun o => (Below.refl _ _).alloc (Nat.le_refl _) _
            have HB4 : Hid (∀ o, Below w.heap.size w (W6.alloc o)) := hide fun o => HB6.out.trans ((hb4 o).mono HB6.out.size)
            have CF4 := fun o => CF tg (W6.alloc o) (HA6.out.stays (hb4 o))
            have HBX4 := hide fun o => BL6.out.stays (hb4 o)
            clear hb4
            obtain ⟨f, ef⟩ : ∃ f, firstL xs tg = f := ⟨_, rfl⟩
            simp only [ef] at CF4
            cases hlb : noTxt lb with
            | false =>
              have hlb2 := noTxt_no hlb
              have HE := hide (HBAD.out (by simp [lineB, ho, hlb]))
              clear HBAD HGO
              go_wp2
              go_ret
              rw [HE.out]
              exact ⟨rfl, HB6.out⟩
            | true =>
              have hlb2 := noTxt_yes hlb
              rw [hlb2] at b0
              cases k with
              | false =>
                have HE := hide (HBAD.out (by simp [lineB, ho, HCO.out, ek]))
                clear HBAD HGO
                go_wp2_with (first | (go_at_call 18; refine CO.out.mono ?_; rintro e z ⟨rfl, ez⟩; rw [ez]; clear ez z; have r2 := Lib.cell_of_heap (HBX4.out (.cells #[.int .i64 4, .int .i64 x1, .int .i64 x2, .int .i64 x3] 37)) 5; simp at r2) | (go_at_call 17; refine (unhide (CF4 _)).mono ?_; rintro e z ⟨rfl, ez⟩; rw [ez]; clear ez z))
                go_ret
                rw [HE.out]
                exact ⟨rfl, HB4.out _⟩
              | true =>
                by_cases hf : f < 0
                · have hf2 : ¬ 0 ≤ f := by omega
                  have HE := hide (HBAD.out (by simp [lineB, ho, HCO.out, ek, ht, ef, hf]))
                  clear HBAD HGO
                  go_wp2_with (first | (go_at_call 18; refine CO.out.mono ?_; rintro e z ⟨rfl, ez⟩; rw [ez]; clear ez z; have r2 := Lib.cell_of_heap (HBX4.out (.cells #[.int .i64 4, .int .i64 x1, .int .i64 x2, .int .i64 x3] 37)) 5; simp at r2) | (go_at_call 17; refine (unhide (CF4 _)).mono ?_; rintro e z ⟨rfl, ez⟩; rw [ez]; clear ez z))
                  go_ret
                  rw [HE.out]
                  exact ⟨rfl, HB4.out _⟩
                · have hf2 : 0 ≤ f := by omega
                  have HE := hide (HGO.out (by simp [lineB, ho, hlb, HCO.out, ek, ht, ef, hf2]))
                  clear HBAD HGO
                  go_wp2_with (first | (go_at_call 18; refine CO.out.mono ?_; rintro e z ⟨rfl, ez⟩; rw [ez]; clear ez z; have r2 := Lib.cell_of_heap (HBX4.out (.cells #[.int .i64 4, .int .i64 x1, .int .i64 x2, .int .i64 x3] 37)) 5; simp at r2) | (go_at_call 17; refine (unhide (CF4 _)).mono ?_; rintro e z ⟨rfl, ez⟩; rw [ez]; clear ez z))
                  go_roundw
                  case rel => exact ⟨i + 1, by rw [EN.out]; omega, by go_num, hide (HB4.out _), HE⟩
                  case measure => simp [intOf]; omega
          · have h42 : ¬ op = 4 := h4
            have k0 := Lib.cell_of_heap BI5.out 0
            simp at k0
            go_upto_region 13 with fail
            obtain ⟨W6, hW6⟩ : ∃ W6, W2.setCell ⟨GI, 3, none⟩ (.int .i64 0) = W6 := ⟨_, rfl⟩
            rw [hW6] at HB5 BL5 BI5 HA5 ⊢
            clear b0 b1 b2 b3 b4 b5 q0 q1 q2 q3 g3 k0 hW6
            have b0 := Lib.cell_of_heap BL5.out 0
            have b1 := Lib.cell_of_heap BL5.out 1
            have b2 := Lib.cell_of_heap BL5.out 2
            have b3 := Lib.cell_of_heap BL5.out 3
            have b4 := Lib.cell_of_heap BL5.out 4
            have b5 := Lib.cell_of_heap BL5.out 5
            have q0 := Lib.cell_of_heap BI5.out 0
            have q1 := Lib.cell_of_heap BI5.out 1
            have q2 := Lib.cell_of_heap BI5.out 2
            have q3 := Lib.cell_of_heap BI5.out 3
            have g3 := Lib.frozen_of_heap BI5.out 3
            simp at b0 b1 b2 b3 b4 b5 q0 q1 q2 q3
            have HCO : Hid (cOf ⟨lb, op, x1, x2, x3, tg⟩ = 0) := hide (by simp [cOf, ht, h4])
            obtain ⟨k, ek⟩ : ∃ b, insB op x1 x2 0 = b := ⟨_, rfl⟩
            have CO := hide (specInsOk_any op x1 x2 0 W6)
            rw [ek] at CO
            have hb4 : ∀ o, Below W6.heap.size W6 (W6.alloc o) := fun o => (Below.refl _ _).alloc (Nat.le_refl _) _
            have HB4 : Hid (∀ o, Below w.heap.size w (W6.alloc o)) := hide fun o => HB5.out.trans ((hb4 o).mono HB5.out.size)
            have CF4 := fun o => CF tg (W6.alloc o) (HA5.out.stays (hb4 o))
            have HBX4 := hide fun o => BL5.out.stays (hb4 o)
            clear hb4
            obtain ⟨f, ef⟩ : ∃ f, firstL xs tg = f := ⟨_, rfl⟩
            simp only [ef] at CF4
            cases hlb : noTxt lb with
            | false =>
              have hlb2 := noTxt_no hlb
              have HE := hide (HBAD.out (by simp [lineB, ho, hlb]))
              clear HBAD HGO
              go_wp2
              go_ret
              rw [HE.out]
              exact ⟨rfl, HB5.out⟩
            | true =>
              have hlb2 := noTxt_yes hlb
              rw [hlb2] at b0
              cases k with
              | false =>
                have HE := hide (HBAD.out (by simp [lineB, ho, HCO.out, ek]))
                clear HBAD HGO
                go_wp2_with (first | (go_at_call 18; refine CO.out.mono ?_; rintro e z ⟨rfl, ez⟩; rw [ez]; clear ez z; have r2 := Lib.cell_of_heap (HBX4.out (.cells #[.int .i64 op, .int .i64 x1, .int .i64 x2, .int .i64 0] 37)) 5; simp at r2) | (go_at_call 17; refine (unhide (CF4 _)).mono ?_; rintro e z ⟨rfl, ez⟩; rw [ez]; clear ez z))
                go_ret
                rw [HE.out]
                exact ⟨rfl, HB4.out _⟩
              | true =>
                by_cases hf : f < 0
                · have hf2 : ¬ 0 ≤ f := by omega
                  have HE := hide (HBAD.out (by simp [lineB, ho, HCO.out, ek, ht, ef, hf]))
                  clear HBAD HGO
                  go_wp2_with (first | (go_at_call 18; refine CO.out.mono ?_; rintro e z ⟨rfl, ez⟩; rw [ez]; clear ez z; have r2 := Lib.cell_of_heap (HBX4.out (.cells #[.int .i64 op, .int .i64 x1, .int .i64 x2, .int .i64 0] 37)) 5; simp at r2) | (go_at_call 17; refine (unhide (CF4 _)).mono ?_; rintro e z ⟨rfl, ez⟩; rw [ez]; clear ez z))
                  go_ret
                  rw [HE.out]
                  exact ⟨rfl, HB4.out _⟩
                · have hf2 : 0 ≤ f := by omega
                  have HE := hide (HGO.out (by simp [lineB, ho, hlb, HCO.out, ek, ht, ef, hf2]))
                  clear HBAD HGO
                  go_wp2_with (first | (go_at_call 18; refine CO.out.mono ?_; rintro e z ⟨rfl, ez⟩; rw [ez]; clear ez z; have r2 := Lib.cell_of_heap (HBX4.out (.cells #[.int .i64 op, .int .i64 x1, .int .i64 x2, .int .i64 0] 37)) 5; simp at r2) | (go_at_call 17; refine (unhide (CF4 _)).mono ?_; rintro e z ⟨rfl, ez⟩; rw [ez]; clear ez z))
                  go_roundw
                  case rel => exact ⟨i + 1, by rw [EN.out]; omega, by go_num, hide (HB4.out _), HE⟩
                  case measure => simp [intOf]; omega
    · have hlt' : ¬ (i : Int) < (n : Int) := by omega
      obtain rfl : i = n := by omega
      have HE : Hid (linesB xs = decide (i ≤ 900)) := hide (by
        have h9 := HT.out
        have e9 := EN.out
        rw [← e9] at h9
        have := h9.all
        rw [e9] at this
        exact this)
      by_cases h9 : i ≤ 900
      · have h9' : (i : Int) ≤ 900 := by omega
        rw [decide_eq_true h9] at HE
        go_wp2
        go_ret
        rw [HE.out]
        exact ⟨rfl, HB.out⟩
      · have h9' : ¬ (i : Int) ≤ 900 := by omega
        rw [decide_eq_false h9] at HE
        go_wp2
        go_ret
        rw [HE.out]
        exact ⟨rfl, HB.out⟩
end Go.Proofs.Ytgmihgnbhjgghaa

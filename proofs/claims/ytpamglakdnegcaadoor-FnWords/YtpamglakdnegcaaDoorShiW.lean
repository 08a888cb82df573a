/-
  Walk: a word shown, by the specification.
-/
import Derived.Test.YtpamglakdnegcaaDoorInsX
import Derived.Test.YtpamglakdnegcaaDoorShelfItoa
import Derived.Test.YtpamglakdnegcaaDoorInsP
import Derived.Test.YtpamglakdnegcaaDoorLwIn
import Derived.Deep.RegionHeld3
namespace Go.Proofs.YtpamglakdnegcaaDoor
open Go.RowKit

def showT (op a b c : Int) : ByteArray := ((((((strOfNums (decI op)) ++ ⟨#[32]⟩) ++ (strOfNums (decI a))) ++ ⟨#[32]⟩) ++ (strOfNums (decI b))) ++ ⟨#[32]⟩) ++ strOfNums (decI c)
def showE (op a b c : Int) : ByteArray := if insB op a b c = true then showT op a b c else ⟨#[]⟩

theorem decI_len20 (n : Int) (h0 : -9223372036854775808 ≤ n) (h1 : n ≤ 9223372036854775807) : (strOfNums (decI n)).size ≤ 30 := by
  have h2 : (strOfNums (decI n)).size = (decI n).length := by
    show (strOfNums (decI n)).data.size = _
    rw [← Array.length_toList, strOfNums_data]
    simp
  rw [h2]
  by_cases hz : n = 0
  · rw [hz, decI_zero]; simp
  · by_cases hn : n < 0
    · rw [decI_neg hn]
      have := decR_len 20 n.natAbs (by omega)
      simp
      omega
    · rw [decI_pos (by omega)]
      have := decR_len 20 n.natAbs (by omega)
      omega

set_option maxRecDepth 100000 in
set_option maxHeartbeats 4000000 in
theorem specShowIns_any (op a b c : Int) (w : World) :
    Calls Tryd.prog 5 #[.agg #[.int .i64 op, .int .i64 a, .int .i64 b, .int .i64 c]] w fun e w' => e = .returned (.string (showE op a b c)) ∧ Below w.heap.size w w' := by
  have CK := fun z => hide (specInsOk_any op a b c z)
  obtain ⟨W1, hW⟩ : ∃ W1, w.alloc (.cells #[.int .i64 op, .int .i64 a, .int .i64 b, .int .i64 c] 25) = W1 := ⟨_, rfl⟩
  have B1 : Hid (Below w.heap.size w W1) := by rw [← hW]; exact hide ((Below.refl _ _).alloc (Nat.le_refl _) _)
  have BA : Hid (Box W1 w.heap.size #[.int .i64 op, .int .i64 a, .int .i64 b, .int .i64 c] 25) := by rw [← hW]; exact hide (Box.made w _ _)
  have HW := hide hW
  clear hW
  go_enter Tryd.func5, Tryd.ntmps5
  go_wp2_with fail
  rw [HW.out]
  refine (unhide (CK _)).mono ?_
  rintro e z ⟨rfl, ez⟩
  have hbz : Below W1.heap.size W1 z := by rw [ez]; exact (Below.refl _ _).alloc (Nat.le_refl _) _
  have HBz : Hid (Below w.heap.size w z) := hide (B1.out.trans (hbz.mono B1.out.size))
  have BZ := hide (BA.out.stays hbz)
  clear ez hbz CK
  cases hk : insB op a b c with
  | false =>
    have HE : Hid (showE op a b c = ⟨#[]⟩) := hide (by unfold showE; rw [hk]; rfl)
    clear hk
    go_wp2
    go_ret
    rw [HE.out]
    exact ⟨rfl, HBz.out⟩
  | true =>
    have HE : Hid (showE op a b c = showT op a b c) := hide (by unfold showE; rw [if_pos hk])
    obtain ⟨⟨x1, x2⟩, ⟨x3, x4⟩, ⟨x5, x6⟩, ⟨x7, x8⟩⟩ := insB_in hk
    have CO := fun z => hide (specDecimal_all op z (by omega) (by omega))
    have CA := fun z => hide (specDecimal_all a z (by omega) (by omega))
    have CB := fun z => hide (specDecimal_all b z (by omega) (by omega))
    have CC := fun z => hide (specDecimal_all c z (by omega) (by omega))
    have l0 := decI_len20 op (by omega) (by omega)
    have l1 := decI_len20 a (by omega) (by omega)
    have l2 := decI_len20 b (by omega) (by omega)
    have l3 := decI_len20 c (by omega) (by omega)
    have HS : Hid (showT op a b c = ((((((strOfNums (decI op)) ++ ⟨#[32]⟩) ++ (strOfNums (decI a))) ++ ⟨#[32]⟩) ++ (strOfNums (decI b))) ++ ⟨#[32]⟩) ++ strOfNums (decI c)) := hide rfl
    have hs32 : (⟨#[32]⟩ : ByteArray).size = 1 := rfl
    clear hk x1 x2 x3 x4 x5 x6 x7 x8
    obtain ⟨t0, e0⟩ : ∃ t, strOfNums (decI op) = t := ⟨_, rfl⟩
    obtain ⟨t1, e1⟩ : ∃ t, strOfNums (decI a) = t := ⟨_, rfl⟩
    obtain ⟨t2, e2⟩ : ∃ t, strOfNums (decI b) = t := ⟨_, rfl⟩
    obtain ⟨t3, e3⟩ : ∃ t, strOfNums (decI c) = t := ⟨_, rfl⟩
    simp only [e0, e1, e2, e3] at CO CA CB CC HS l0 l1 l2 l3
    clear e0 e1 e2 e3
    have u2 : ¬ 9223372036854775807 < t0.size + 1 := by omega
    have u3 : ¬ 9223372036854775807 < t0.size + 1 + t1.size := by omega
    have u4 : ¬ 9223372036854775807 < t0.size + 1 + t1.size + 1 := by omega
    have u5 : ¬ 9223372036854775807 < t0.size + 1 + t1.size + 1 + t2.size := by omega
    have u6 : ¬ 9223372036854775807 < t0.size + 1 + t1.size + 1 + t2.size + 1 := by omega
    have u7 : ¬ 9223372036854775807 < t0.size + 1 + t1.size + 1 + t2.size + 1 + t3.size := by omega
    have KC : Hid (∀ z : World, Below w.heap.size w z → Box z w.heap.size #[.int .i64 op, .int .i64 a, .int .i64 b, .int .i64 c] 25 → (z.cell? ⟨w.heap.size, 0, none⟩ = some (.int .i64 op) ∧ z.cell? ⟨w.heap.size, 1, none⟩ = some (.int .i64 a) ∧ z.cell? ⟨w.heap.size, 2, none⟩ = some (.int .i64 b) ∧ z.cell? ⟨w.heap.size, 3, none⟩ = some (.int .i64 c) ∧ Hid (Below w.heap.size w z ∧ Box z w.heap.size #[.int .i64 op, .int .i64 a, .int .i64 b, .int .i64 c] 25))) := hide fun z h k => ⟨Lib.cell_of_heap k 0, Lib.cell_of_heap k 1, Lib.cell_of_heap k 2, Lib.cell_of_heap k 3, h, k⟩
    have KP : Hid (∀ z z' : World, (z.cell? ⟨w.heap.size, 0, none⟩ = some (.int .i64 op) ∧ z.cell? ⟨w.heap.size, 1, none⟩ = some (.int .i64 a) ∧ z.cell? ⟨w.heap.size, 2, none⟩ = some (.int .i64 b) ∧ z.cell? ⟨w.heap.size, 3, none⟩ = some (.int .i64 c) ∧ Hid (Below w.heap.size w z ∧ Box z w.heap.size #[.int .i64 op, .int .i64 a, .int .i64 b, .int .i64 c] 25)) → Below z.heap.size z z' → (z'.cell? ⟨w.heap.size, 0, none⟩ = some (.int .i64 op) ∧ z'.cell? ⟨w.heap.size, 1, none⟩ = some (.int .i64 a) ∧ z'.cell? ⟨w.heap.size, 2, none⟩ = some (.int .i64 b) ∧ z'.cell? ⟨w.heap.size, 3, none⟩ = some (.int .i64 c) ∧ Hid (Below w.heap.size w z' ∧ Box z' w.heap.size #[.int .i64 op, .int .i64 a, .int .i64 b, .int .i64 c] 25))) := hide fun z z' h hb => KC.out _ (h.2.2.2.2.out.1.trans (hb.mono h.2.2.2.2.out.1.size)) (h.2.2.2.2.out.2.stays hb)
    have KN : Hid (∀ z : World, (z.cell? ⟨w.heap.size, 0, none⟩ = some (.int .i64 op) ∧ z.cell? ⟨w.heap.size, 1, none⟩ = some (.int .i64 a) ∧ z.cell? ⟨w.heap.size, 2, none⟩ = some (.int .i64 b) ∧ z.cell? ⟨w.heap.size, 3, none⟩ = some (.int .i64 c) ∧ Hid (Below w.heap.size w z ∧ Box z w.heap.size #[.int .i64 op, .int .i64 a, .int .i64 b, .int .i64 c] 25)) → Below w.heap.size w z) := hide fun z h => h.2.2.2.2.out.1
    have K0 := hide (KC.out _ HBz.out.drew (BZ.out.stays (Below.refl _ _).drew))
    go_wp2_with fail
    go_region_held3 (fun z => z.cell? ⟨w.heap.size, 0, none⟩ = some (.int .i64 op) ∧ z.cell? ⟨w.heap.size, 1, none⟩ = some (.int .i64 a) ∧ z.cell? ⟨w.heap.size, 2, none⟩ = some (.int .i64 b) ∧ z.cell? ⟨w.heap.size, 3, none⟩ = some (.int .i64 c) ∧ Hid (Below w.heap.size w z ∧ Box z w.heap.size #[.int .i64 op, .int .i64 a, .int .i64 b, .int .i64 c] 25)) (first | exact K0.out | exact KP.out _ _ (by assumption) hb7)
    (first
      | (go_at_call_of 17 (Value.int IntKind.i64 op); refine (unhide (CO _)).mono ?_; rintro e w7 ⟨rfl, hb7⟩)
      | (go_at_call_of 17 (Value.int IntKind.i64 a); refine (unhide (CA _)).mono ?_; rintro e w7 ⟨rfl, hb7⟩)
      | (go_at_call_of 17 (Value.int IntKind.i64 b); refine (unhide (CB _)).mono ?_; rintro e w7 ⟨rfl, hb7⟩)
      | (go_at_call_of 17 (Value.int IntKind.i64 c); refine (unhide (CC _)).mono ?_; rintro e w7 ⟨rfl, hb7⟩))
    go_wp2
    go_ret
    rw [HE.out, HS.out]
    exact ⟨rfl, KN.out _ (by assumption)⟩

/-- A word, shown by both: over what the program answers. -/
theorem lawShowIns (op a b c : Int) (w : World)
    (IP : ∀ z, Below w.heap.size w z → Calls Tryd.prog 7 #[.agg #[.int .i64 op, .int .i64 a, .int .i64 b, .int .i64 c]] z fun e w' => e = .returned (.string (showE op a b c)) ∧ Below z.heap.size z w') :
    Calls Tryd.prog 3 #[.agg #[.int .i64 op, .int .i64 a, .int .i64 b, .int .i64 c]] w fun e w' => e = .returned (.bool true) ∧ Below w.heap.size w w' := by
  have HIP := hide IP
  clear IP
  have CT := fun z => hide (toIns_any op a b c z)
  have CS := fun z => hide (specShowIns_any op a b c z)
  obtain ⟨W1, hW⟩ : ∃ W1, w.alloc (.cells #[.int .i64 op, .int .i64 a, .int .i64 b, .int .i64 c] 23) = W1 := ⟨_, rfl⟩
  have B1 : Hid (Below w.heap.size w W1) := by rw [← hW]; exact hide ((Below.refl _ _).alloc (Nat.le_refl _) _)
  have BA : Hid (Box W1 w.heap.size #[.int .i64 op, .int .i64 a, .int .i64 b, .int .i64 c] 23) := by rw [← hW]; exact hide (Box.made w _ _)
  have HW := hide hW
  clear hW
  obtain ⟨t, et⟩ : ∃ t, showE op a b c = t := ⟨_, rfl⟩
  simp only [et] at CS HIP
  clear et
  go_enter Tryd.func3, Tryd.ntmps3
  go_wp2_with fail
  rw [HW.out]
  refine (unhide (CT _)).mono ?_
  rintro e z1 ⟨rfl, hb1⟩
  go_wp2_with fail
  refine (unhide (CS _)).mono ?_
  rintro e z2 ⟨rfl, hb2⟩
  have BB := hide ((B1.out.trans (hb1.mono B1.out.size)).trans (hb2.mono (Nat.le_trans B1.out.size hb1.size)))
  have BX := hide ((BA.out.stays hb1).stays hb2)
  clear hb1 hb2 CS
  have q0 := Lib.cell_of_heap BX.out 0
  have q1 := Lib.cell_of_heap BX.out 1
  have q2 := Lib.cell_of_heap BX.out 2
  have q3 := Lib.cell_of_heap BX.out 3
  simp at q0 q1 q2 q3
  go_wp2_with fail
  refine (unhide (CT _)).mono ?_
  rintro e z3 ⟨rfl, hb3⟩
  have BC := hide (BB.out.trans (hb3.mono BB.out.size))
  clear hb3
  go_wp2_with fail
  refine (HIP.out _ BC.out).mono ?_
  rintro e z4 ⟨rfl, hb4⟩
  have BD := hide (BC.out.trans (hb4.mono BC.out.size))
  clear hb4 HIP CT
  go_wp2
  go_ret
  exact ⟨rfl, BD.out⟩
end Go.Proofs.YtpamglakdnegcaaDoor

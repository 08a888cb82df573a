/-
  Walk: a word shown, by the program.
-/
import Derived.Test.YtpamglakdnegcaaDoorShiW
import Derived.Test.YtpamglakdnegcaaDoorInsI
import Derived.Test.YtpamglakdnegcaaDoorJoinW
namespace Go.Proofs.YtpamglakdnegcaaDoor
open Go.RowKit

theorem row4_cells (w : World) (a b c d : ByteArray) : ∀ j x, (a :: [b, c, d])[j]? = some x → (w.alloc (.cells #[.string a, .string b, .string c, .string d] 9)).cell? ⟨w.heap.size, j, none⟩ = some (.string x) := by
  intro j x h
  have hk : (w.alloc (.cells #[.string a, .string b, .string c, .string d] 9)).heap[w.heap.size]? = some (.cells #[.string a, .string b, .string c, .string d] 9) := heap_alloc_new w _
  rw [Lib.cell_of_heap hk]
  match j, h with
  | 0, h => simp at h; subst h; rfl
  | 1, h => simp at h; subst h; rfl
  | 2, h => simp at h; subst h; rfl
  | 3, h => simp at h; subst h; rfl
  | _ + 4, h => simp at h

set_option maxRecDepth 100000 in
set_option maxHeartbeats 4000000 in
theorem implShowIns_any (op a b c : Int) (w : World) (htab : Lib.TabIs Tryd.prog w "internal/strconv.uint64pow10" .u64 Lib.pow10Tab) :
    Calls Tryd.prog 7 #[.agg #[.int .i64 op, .int .i64 a, .int .i64 b, .int .i64 c]] w fun e w' => e = .returned (.string (showE op a b c)) ∧ Below w.heap.size w w' := by
  have HT := hide htab
  clear htab
  have CK := fun z => hide (implInsOk_any op a b c z)
  obtain ⟨W1, hW⟩ : ∃ W1, w.alloc (.cells #[.int .i64 op, .int .i64 a, .int .i64 b, .int .i64 c] 25) = W1 := ⟨_, rfl⟩
  have B1 : Hid (Below w.heap.size w W1) := by rw [← hW]; exact hide ((Below.refl _ _).alloc (Nat.le_refl _) _)
  have BA : Hid (Box W1 w.heap.size #[.int .i64 op, .int .i64 a, .int .i64 b, .int .i64 c] 25) := by rw [← hW]; exact hide (Box.made w _ _)
  have HW := hide hW
  clear hW
  go_enter Tryd.func7, Tryd.ntmps7
  go_wp2_with fail
  rw [HW.out]
  refine (unhide (CK _)).mono ?_
  rintro e z ⟨rfl, ez⟩
  have hbz : Below W1.heap.size W1 z := by rw [ez]; go_grown
  have HBz : Hid (Below w.heap.size w z) := hide (B1.out.trans (hbz.mono B1.out.size))
  have BZ := hide (BA.out.stays hbz)
  clear ez hbz CK
  cases hk : insB op a b c with
  | false =>
    have HE : Hid (showE op a b c = ⟨#[]⟩) := hide (by unfold showE; rw [hk]; rfl)
    clear hk
    go_wp2
    go_ret
    rw [HE.out]
    exact ⟨rfl, HBz.out⟩
  | true =>
    have HE : Hid (showE op a b c = showT op a b c) := hide (by unfold showE; rw [if_pos hk])
    obtain ⟨⟨x1, x2⟩, ⟨x3, x4⟩, ⟨x5, x6⟩, ⟨x7, x8⟩⟩ := insB_in hk
    have CO := fun z (hb : Below w.heap.size w z) => hide (implDecimal_any op z (by omega) (by omega) (Joins.tab_stays gPow HT.out hb (Nat.le_refl _)))
    have CA := fun z (hb : Below w.heap.size w z) => hide (implDecimal_any a z (by omega) (by omega) (Joins.tab_stays gPow HT.out hb (Nat.le_refl _)))
    have CB := fun z (hb : Below w.heap.size w z) => hide (implDecimal_any b z (by omega) (by omega) (Joins.tab_stays gPow HT.out hb (Nat.le_refl _)))
    have CC := fun z (hb : Below w.heap.size w z) => hide (implDecimal_any c z (by omega) (by omega) (Joins.tab_stays gPow HT.out hb (Nat.le_refl _)))
    have l0 := decI_len20 op (by omega) (by omega)
    have l1 := decI_len20 a (by omega) (by omega)
    have l2 := decI_len20 b (by omega) (by omega)
    have l3 := decI_len20 c (by omega) (by omega)
    have HS : Hid (showT op a b c = ((((((strOfNums (decI op)) ++ ⟨#[32]⟩) ++ (strOfNums (decI a))) ++ ⟨#[32]⟩) ++ (strOfNums (decI b))) ++ ⟨#[32]⟩) ++ strOfNums (decI c)) := hide rfl
    have hs32 : (⟨#[32]⟩ : ByteArray).size = 1 := rfl
    clear hk x1 x2 x3 x4 x5 x6 x7 x8
    obtain ⟨t0, e0⟩ : ∃ t, strOfNums (decI op) = t := ⟨_, rfl⟩
    obtain ⟨t1, e1⟩ : ∃ t, strOfNums (decI a) = t := ⟨_, rfl⟩
    obtain ⟨t2, e2⟩ : ∃ t, strOfNums (decI b) = t := ⟨_, rfl⟩
    obtain ⟨t3, e3⟩ : ∃ t, strOfNums (decI c) = t := ⟨_, rfl⟩
    simp only [e0, e1, e2, e3] at CO CA CB CC HS l0 l1 l2 l3
    clear e0 e1 e2 e3
    have CJ := fun z => hide (join_many z.heap.size 4 t0 ⟨#[32]⟩ [t1, t2, t3] (z.alloc (.cells #[.string t0, .string t1, .string t2, .string t3] 9)) (row4_cells z t0 t1 t2 t3) (by simp) (by simp) (by simp) (by simp) (by rw [joinT_size]; simp [sizesT, hs32]; omega))
    have KC : Hid (∀ z : World, Below w.heap.size w z → Box z w.heap.size #[.int .i64 op, .int .i64 a, .int .i64 b, .int .i64 c] 25 → (z.cell? ⟨w.heap.size, 0, none⟩ = some (.int .i64 op) ∧ z.cell? ⟨w.heap.size, 1, none⟩ = some (.int .i64 a) ∧ z.cell? ⟨w.heap.size, 2, none⟩ = some (.int .i64 b) ∧ z.cell? ⟨w.heap.size, 3, none⟩ = some (.int .i64 c) ∧ Hid (Below w.heap.size w z ∧ Box z w.heap.size #[.int .i64 op, .int .i64 a, .int .i64 b, .int .i64 c] 25))) := hide fun z h k => ⟨Lib.cell_of_heap k 0, Lib.cell_of_heap k 1, Lib.cell_of_heap k 2, Lib.cell_of_heap k 3, h, k⟩
    have KP : Hid (∀ z z' : World, (z.cell? ⟨w.heap.size, 0, none⟩ = some (.int .i64 op) ∧ z.cell? ⟨w.heap.size, 1, none⟩ = some (.int .i64 a) ∧ z.cell? ⟨w.heap.size, 2, none⟩ = some (.int .i64 b) ∧ z.cell? ⟨w.heap.size, 3, none⟩ = some (.int .i64 c) ∧ Hid (Below w.heap.size w z ∧ Box z w.heap.size #[.int .i64 op, .int .i64 a, .int .i64 b, .int .i64 c] 25)) → Below z.heap.size z z' → (z'.cell? ⟨w.heap.size, 0, none⟩ = some (.int .i64 op) ∧ z'.cell? ⟨w.heap.size, 1, none⟩ = some (.int .i64 a) ∧ z'.cell? ⟨w.heap.size, 2, none⟩ = some (.int .i64 b) ∧ z'.cell? ⟨w.heap.size, 3, none⟩ = some (.int .i64 c) ∧ Hid (Below w.heap.size w z' ∧ Box z' w.heap.size #[.int .i64 op, .int .i64 a, .int .i64 b, .int .i64 c] 25))) := hide fun z z' h hb => KC.out _ (h.2.2.2.2.out.1.trans (hb.mono h.2.2.2.2.out.1.size)) (h.2.2.2.2.out.2.stays hb)
    have KN : Hid (∀ z : World, (z.cell? ⟨w.heap.size, 0, none⟩ = some (.int .i64 op) ∧ z.cell? ⟨w.heap.size, 1, none⟩ = some (.int .i64 a) ∧ z.cell? ⟨w.heap.size, 2, none⟩ = some (.int .i64 b) ∧ z.cell? ⟨w.heap.size, 3, none⟩ = some (.int .i64 c) ∧ Hid (Below w.heap.size w z ∧ Box z w.heap.size #[.int .i64 op, .int .i64 a, .int .i64 b, .int .i64 c] 25)) → Below w.heap.size w z) := hide fun z h => h.2.2.2.2.out.1
    have K0 := hide (KC.out _ HBz.out.drew (BZ.out.stays (Below.refl _ _).drew))
    go_wp2_with fail
    go_region_held3 (fun z => z.cell? ⟨w.heap.size, 0, none⟩ = some (.int .i64 op) ∧ z.cell? ⟨w.heap.size, 1, none⟩ = some (.int .i64 a) ∧ z.cell? ⟨w.heap.size, 2, none⟩ = some (.int .i64 b) ∧ z.cell? ⟨w.heap.size, 3, none⟩ = some (.int .i64 c) ∧ Hid (Below w.heap.size w z ∧ Box z w.heap.size #[.int .i64 op, .int .i64 a, .int .i64 b, .int .i64 c] 25)) (first | exact K0.out | exact KP.out _ _ (by assumption) hb7 | exact KP.out _ _ (by assumption) ((Below.refl _ _).alloc (Nat.le_refl _) _))
    (first
      | (go_at_call 18; refine (unhide (CJ _)).mono ?_; rintro e w7 ⟨rfl, hb7⟩)
      | (go_at_call_of 19 (Value.int IntKind.i64 op); refine (unhide (CO _ (KN.out _ (by assumption)))).mono ?_; rintro e w7 ⟨rfl, hb7⟩)
      | (go_at_call_of 19 (Value.int IntKind.i64 a); refine (unhide (CA _ (KN.out _ (by assumption)))).mono ?_; rintro e w7 ⟨rfl, hb7⟩)
      | (go_at_call_of 19 (Value.int IntKind.i64 b); refine (unhide (CB _ (KN.out _ (by assumption)))).mono ?_; rintro e w7 ⟨rfl, hb7⟩)
      | (go_at_call_of 19 (Value.int IntKind.i64 c); refine (unhide (CC _ (KN.out _ (by assumption)))).mono ?_; rintro e w7 ⟨rfl, hb7⟩))
    go_wp2
    go_ret
    rw [HE.out, HS.out]
    exact ⟨rfl, KN.out _ (by assumption)⟩
end Go.Proofs.YtpamglakdnegcaaDoor

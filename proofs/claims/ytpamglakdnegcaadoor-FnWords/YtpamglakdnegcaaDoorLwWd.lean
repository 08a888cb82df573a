/-
  The law FnWords: drawn words, over what the program answers.
-/
import Derived.Test.YtpamglakdnegcaaDoorDrwO
import Derived.Test.YtpamglakdnegcaaDoorShiW
import Derived.Test.YtpamglakdnegcaaDoorPlacesW
import Derived.Deep.Cut
namespace Go.Proofs.YtpamglakdnegcaaDoor
open Go.RowKit

/-- What Encode of the program answers. -/
def ImpEncode : Prop := ∀ (op a b c : Int) (w : World), Calls Tryd.prog 10 #[.agg #[.int .i64 op, .int .i64 a, .int .i64 b, .int .i64 c]] w fun e w' => e = .returned (.tuple #[.int .i64 (if insB op a b c = true then encI op a b c else 0), .bool (insB op a b c)]) ∧ Below w.heap.size w w'
/-- What Decode of the program answers. -/
def ImpDecode : Prop := ∀ (n : Int) (w : World), Calls Tryd.prog 11 #[.int .i64 n] w fun e w' => e = .returned (.tuple #[.agg #[.int .i64 (decE n).op, .int .i64 (decE n).a, .int .i64 (decE n).b, .int .i64 (decE n).c], .bool (decB n)]) ∧ Below w.heap.size w w'
/-- What InsOk of the program answers. -/
def ImpInsOk : Prop := ∀ (op a b c : Int) (w : World), Calls Tryd.prog 16 #[.agg #[.int .i64 op, .int .i64 a, .int .i64 b, .int .i64 c]] w fun e w' => e = .returned (.bool (insB op a b c)) ∧ Below w.heap.size w w'

theorem decE_enc {op a b c : Int} (h : insB op a b c = true) : decE (encI op a b c) = ⟨op, a, b, c⟩ := by
  obtain ⟨h1, h2, h3, h4, _⟩ := dec_enc h
  unfold decE
  rw [if_pos (decB_enc h), h1, h2, h3, h4]
theorem decE_no {n : Int} (h : decB n = false) : decE n = ⟨0, 0, 0, 0⟩ := by
  unfold decE
  rw [h]
  rfl
theorem decB_zero : decB 0 = false := by decide
theorem enc_decE {n : Int} (h : decB n = true) : (if insB (decE n).op (decE n).a (decE n).b (decE n).c = true then encI (decE n).op (decE n).a (decE n).b (decE n).c else 0) = n := by
  have e : decE n = ⟨decOp n, decA n, decBb n, decC n⟩ := by unfold decE; rw [if_pos h]
  have h2 : insB (decOp n) (decA n) (decBb n) (decC n) = true := by
    unfold decB at h
    rw [Bool.and_eq_true] at h
    exact h.2
  rw [e]
  dsimp only
  rw [if_pos h2, enc_dec]
theorem enc_inj {op a b c p q r s : Int} (h : insB op a b c = true) (k : insB p q r s = true) (e : encI p q r s = encI op a b c) : p = op ∧ q = a ∧ r = b ∧ s = c := by
  have h1 := decE_enc h
  have h2 := decE_enc k
  rw [e, h1] at h2
  injection h2 with e1 e2 e3 e4
  exact ⟨e1.symm, e2.symm, e3.symm, e4.symm⟩

set_option maxRecDepth 100000 in
set_option maxHeartbeats 16000000 in
theorem lawWords (IE : ImpEncode) (ID : ImpDecode) (IO : ImpInsOk) (w : World) (v : Value) (n : Nat) (H : CodeAt w w.heap.size v n)
    (IS : ∀ op a b c z, Below w.heap.size w z → Calls Tryd.prog 7 #[.agg #[.int .i64 op, .int .i64 a, .int .i64 b, .int .i64 c]] z fun e w' => e = .returned (.string (showE op a b c)) ∧ Below z.heap.size z w') :
    Calls Tryd.prog 4 #[v] w fun e w' => e = .returned (.bool true) ∧ Below w.heap.size w w' := by
  have HIE := hide IE
  have HID := hide ID
  have HIO := hide IO
  have HIS := hide IS
  clear IE ID IO IS
  obtain ⟨ao, c9, rfl⟩ := H.slice
  have BG := fun z => hide (big_any z ao n c9)
  by_cases hn : n ≤ 1048576
  case neg =>
    have eb : decide (1048576 < n) = true := decide_eq_true (by omega)
    simp only [eb] at BG
    clear eb
    go_enter Tryd.func4, Tryd.ntmps4
    go_wp2_with (go_at_call 8; refine (unhide (BG _)).mono ?_; rintro e z ⟨rfl, rfl⟩)
    go_ret
    exact ⟨rfl, Below.refl _ _⟩
  have eb : decide (1048576 < n) = false := decide_eq_false (by omega)
  simp only [eb] at BG
  clear eb
  have HC : Hid (∀ z, Below w.heap.size w z → CodeAt z w.heap.size (.slice ao n c9) n) := hide fun z h => H.below h
  clear H
  go_enter Tryd.func4, Tryd.ntmps4
  go_wp2_with (first | (go_at_call 8; refine (unhide (BG _)).mono ?_; rintro e z ⟨rfl, rfl⟩) | fail)
  refine (drawEncode_any w w.heap.size _ n hn (HC.out _ (Below.refl _ _)) (Nat.le_refl _)).mono ?_
  rintro e z1 ⟨op, a, b, c, rfl, hb⟩
  have BB := hide hb
  clear hb BG
  cases hok : insB op a b c with
  | true =>
    have hba : Below z1.heap.size z1 (z1.alloc (.cells #[.int .i64 op, .int .i64 a, .int .i64 b, .int .i64 c] 25)) := (Below.refl _ _).alloc (Nat.le_refl _) _
    have BX_1 := hide (Box.made z1 #[.int .i64 op, .int .i64 a, .int .i64 b, .int .i64 c] 25)
    have BB_1 := hide (BB.out.trans (hba.mono BB.out.size))
    clear hba BB
    obtain ⟨Y1, hY⟩ : ∃ Z, z1.alloc (.cells #[.int .i64 op, .int .i64 a, .int .i64 b, .int .i64 c] 25) = Z := ⟨_, rfl⟩
    obtain ⟨GBX, hG⟩ : ∃ G, z1.heap.size = G := ⟨_, rfl⟩
    have HY1 := hide hY
    have HG1 := hide hG
    rw [hY] at BX_1 BB_1
    rw [hG] at BX_1
    clear hY hG
    go_upto_region 4 with fail
    rw [HY1.out, HG1.out]
    clear HY1 HG1
    have qBX0 := Lib.cell_of_heap BX_1.out 0
    simp at qBX0
    have qBX1 := Lib.cell_of_heap BX_1.out 1
    simp at qBX1
    have qBX2 := Lib.cell_of_heap BX_1.out 2
    simp at qBX2
    have qBX3 := Lib.cell_of_heap BX_1.out 3
    simp at qBX3
    go_wp2_with fail
    clear qBX0 qBX1 qBX2 qBX3
    refine (HIE.out op a b c _).mono ?_
    rintro e z2 ⟨rfl, hb⟩
    have BX_2 := hide (BX_1.out.stays hb)
    clear BX_1
    have BB_2 := hide (BB_1.out.trans (hb.mono BB_1.out.size))
    clear hb BB_1
    rw [hok]
    rw [if_pos rfl]
    go_wp2_with fail
    refine (HID.out (encI op a b c) _).mono ?_
    rintro e z3 ⟨rfl, hb⟩
    have BX_3 := hide (BX_2.out.stays hb)
    clear BX_2
    have BB_3 := hide (BB_2.out.trans (hb.mono BB_2.out.size))
    clear hb BB_2
    rw [decE_enc hok, decB_enc hok]
    dsimp only
    have HEN : Hid (∀ p q r s, insB p q r s = true → encI p q r s = encI op a b c → p = op ∧ q = a ∧ r = b ∧ s = c) := hide fun p q r s k e => enc_inj hok k e
    obtain ⟨N, eN⟩ : ∃ N, encI op a b c = N := ⟨_, rfl⟩
    rw [eN] at HEN ⊢
    clear eN
    have hba : Below z3.heap.size z3 (z3.alloc (.cells #[.int .i64 op, .int .i64 a, .int .i64 b, .int .i64 c] 25)) := (Below.refl _ _).alloc (Nat.le_refl _) _
    have BX_4 := hide (BX_3.out.stays hba)
    clear BX_3
    have BY_4 := hide (Box.made z3 #[.int .i64 op, .int .i64 a, .int .i64 b, .int .i64 c] 25)
    have BB_4 := hide (BB_3.out.trans (hba.mono BB_3.out.size))
    clear hba BB_3
    obtain ⟨Y4, hY⟩ : ∃ Z, z3.alloc (.cells #[.int .i64 op, .int .i64 a, .int .i64 b, .int .i64 c] 25) = Z := ⟨_, rfl⟩
    obtain ⟨GBY, hG⟩ : ∃ G, z3.heap.size = G := ⟨_, rfl⟩
    have HY4 := hide hY
    have HG4 := hide hG
    rw [hY] at BX_4 BY_4 BB_4
    rw [hG] at BY_4
    clear hY hG
    go_upto_region 6 with fail
    rw [HY4.out, HG4.out]
    clear HY4 HG4
    go_wp2_with fail
    refine (drawDecode_any _ w.heap.size _ n hn (HC.out _ BB_4.out) BB_4.out.size).mono ?_
    rintro e z4 ⟨wd, rfl, hb⟩
    have BX_5 := hide (BX_4.out.stays hb)
    clear BX_4
    have BY_5 := hide (BY_4.out.stays hb)
    clear BY_4
    have BB_5 := hide (BB_4.out.trans (hb.mono BB_4.out.size))
    clear hb BB_4
    go_wp2_with fail
    refine (HID.out wd _).mono ?_
    rintro e z5 ⟨rfl, hb⟩
    have BX_6 := hide (BX_5.out.stays hb)
    clear BX_5
    have BY_6 := hide (BY_5.out.stays hb)
    clear BY_5
    have BB_6 := hide (BB_5.out.trans (hb.mono BB_5.out.size))
    clear hb BB_5
    cases hmay : decB wd with
    | false =>
      have ed := decE_no hmay
      rw [ed]
      dsimp only
      have hba : Below z5.heap.size z5 (z5.alloc (.cells #[.int .i64 0, .int .i64 0, .int .i64 0, .int .i64 0] 25)) := (Below.refl _ _).alloc (Nat.le_refl _) _
      have BX_7 := hide (BX_6.out.stays hba)
      clear BX_6
      have BY_7 := hide (BY_6.out.stays hba)
      clear BY_6
      have BD_7 := hide (Box.made z5 #[.int .i64 0, .int .i64 0, .int .i64 0, .int .i64 0] 25)
      have BB_7 := hide (BB_6.out.trans (hba.mono BB_6.out.size))
      clear hba BB_6
      obtain ⟨Y7, hY⟩ : ∃ Z, z5.alloc (.cells #[.int .i64 0, .int .i64 0, .int .i64 0, .int .i64 0] 25) = Z := ⟨_, rfl⟩
      obtain ⟨GBD, hG⟩ : ∃ G, z5.heap.size = G := ⟨_, rfl⟩
      have HY7 := hide hY
      have HG7 := hide hG
      rw [hY] at BX_7 BY_7 BD_7 BB_7
      rw [hG] at BD_7
      clear hY hG
      go_upto_region 8 with fail
      rw [HY7.out, HG7.out]
      clear HY7 HG7
      go_wp2_with fail
      refine (specDecode_any wd _).mono ?_
      rintro e z6 ⟨rfl, hb⟩
      have BX_8 := hide (BX_7.out.stays hb)
      clear BX_7
      have BY_8 := hide (BY_7.out.stays hb)
      clear BY_7
      have BD_8 := hide (BD_7.out.stays hb)
      clear BD_7
      have BB_8 := hide (BB_7.out.trans (hb.mono BB_7.out.size))
      clear hb BB_7
      rw [hmay, ed]
      dsimp only
      have hba : Below z6.heap.size z6 (z6.alloc (.cells #[.int .i64 0, .int .i64 0, .int .i64 0, .int .i64 0] 25)) := (Below.refl _ _).alloc (Nat.le_refl _) _
      have BX_9 := hide (BX_8.out.stays hba)
      clear BX_8
      have BY_9 := hide (BY_8.out.stays hba)
      clear BY_8
      have BD_9 := hide (BD_8.out.stays hba)
      clear BD_8
      have BS_9 := hide (Box.made z6 #[.int .i64 0, .int .i64 0, .int .i64 0, .int .i64 0] 25)
      have BB_9 := hide (BB_8.out.trans (hba.mono BB_8.out.size))
      clear hba BB_8
      obtain ⟨Y9, hY⟩ : ∃ Z, z6.alloc (.cells #[.int .i64 0, .int .i64 0, .int .i64 0, .int .i64 0] 25) = Z := ⟨_, rfl⟩
      obtain ⟨GBS, hG⟩ : ∃ G, z6.heap.size = G := ⟨_, rfl⟩
      have HY9 := hide hY
      have HG9 := hide hG
      rw [hY] at BX_9 BY_9 BD_9 BS_9 BB_9
      rw [hG] at BS_9
      clear hY hG
      go_upto_region 9 with fail
      rw [HY9.out, HG9.out]
      clear HY9 HG9
      have qBD0 := Lib.cell_of_heap BD_9.out 0
      simp at qBD0
      have qBD1 := Lib.cell_of_heap BD_9.out 1
      simp at qBD1
      have qBD2 := Lib.cell_of_heap BD_9.out 2
      simp at qBD2
      have qBD3 := Lib.cell_of_heap BD_9.out 3
      simp at qBD3
      go_wp2_with fail
      clear qBD0 qBD1 qBD2 qBD3
      refine (HIE.out 0 0 0 0 _).mono ?_
      rintro e z7 ⟨rfl, hb⟩
      have BX_10 := hide (BX_9.out.stays hb)
      clear BX_9
      have BY_10 := hide (BY_9.out.stays hb)
      clear BY_9
      have BD_10 := hide (BD_9.out.stays hb)
      clear BD_9
      have BS_10 := hide (BS_9.out.stays hb)
      clear BS_9
      have BB_10 := hide (BB_9.out.trans (hb.mono BB_9.out.size))
      clear hb BB_9
      rw [show insB 0 0 0 0 = false from by decide, if_neg (by decide)]
      go_wp2_with fail
      refine (drawIns_any _ w.heap.size _ n hn (HC.out _ BB_10.out) BB_10.out.size).mono ?_
      rintro e z8 ⟨p, q, r, t, rfl, hpq, hb⟩
      have BX_11 := hide (BX_10.out.stays hb)
      clear BX_10
      have BY_11 := hide (BY_10.out.stays hb)
      clear BY_10
      have BD_11 := hide (BD_10.out.stays hb)
      clear BD_10
      have BS_11 := hide (BS_10.out.stays hb)
      clear BS_10
      have BB_11 := hide (BB_10.out.trans (hb.mono BB_10.out.size))
      clear hb BB_10
      have hba : Below z8.heap.size z8 (z8.alloc (.cells #[.int .i64 p, .int .i64 q, .int .i64 r, .int .i64 t] 25)) := (Below.refl _ _).alloc (Nat.le_refl _) _
      have BX_12 := hide (BX_11.out.stays hba)
      clear BX_11
      have BY_12 := hide (BY_11.out.stays hba)
      clear BY_11
      have BD_12 := hide (BD_11.out.stays hba)
      clear BD_11
      have BS_12 := hide (BS_11.out.stays hba)
      clear BS_11
      have BU_12 := hide (Box.made z8 #[.int .i64 p, .int .i64 q, .int .i64 r, .int .i64 t] 25)
      have BB_12 := hide (BB_11.out.trans (hba.mono BB_11.out.size))
      clear hba BB_11
      obtain ⟨Y12, hY⟩ : ∃ Z, z8.alloc (.cells #[.int .i64 p, .int .i64 q, .int .i64 r, .int .i64 t] 25) = Z := ⟨_, rfl⟩
      obtain ⟨GBU, hG⟩ : ∃ G, z8.heap.size = G := ⟨_, rfl⟩
      have HY12 := hide hY
      have HG12 := hide hG
      rw [hY] at BX_12 BY_12 BD_12 BS_12 BU_12 BB_12
      rw [hG] at BU_12
      clear hY hG
      go_upto_region 11 with fail
      rw [HY12.out, HG12.out]
      clear HY12 HG12
      have qBU0 := Lib.cell_of_heap BU_12.out 0
      simp at qBU0
      have qBU1 := Lib.cell_of_heap BU_12.out 1
      simp at qBU1
      have qBU2 := Lib.cell_of_heap BU_12.out 2
      simp at qBU2
      have qBU3 := Lib.cell_of_heap BU_12.out 3
      simp at qBU3
      go_wp2_with fail
      clear qBU0 qBU1 qBU2 qBU3
      refine (HIE.out p q r t _).mono ?_
      rintro e z9 ⟨rfl, hb⟩
      have BX_13 := hide (BX_12.out.stays hb)
      clear BX_12
      have BY_13 := hide (BY_12.out.stays hb)
      clear BY_12
      have BD_13 := hide (BD_12.out.stays hb)
      clear BD_12
      have BS_13 := hide (BS_12.out.stays hb)
      clear BS_12
      have BU_13 := hide (BU_12.out.stays hb)
      clear BU_12
      have BB_13 := hide (BB_12.out.trans (hb.mono BB_12.out.size))
      clear hb BB_12
      rw [hpq, if_pos rfl]
      obtain ⟨Sc, eSc⟩ : ∃ Sc : World → Prop, ∀ z, Sc z ↔ (Below w.heap.size w z ∧ Box z GBX #[.int .i64 op, .int .i64 a, .int .i64 b, .int .i64 c] 25 ∧ Box z GBY #[.int .i64 op, .int .i64 a, .int .i64 b, .int .i64 c] 25 ∧ Box z GBU #[.int .i64 p, .int .i64 q, .int .i64 r, .int .i64 t] 25) := ⟨_, fun _ => Iff.rfl⟩
      have HSC := hide eSc
      have KP : Hid (∀ z z', Sc z → Below z.heap.size z z' → Sc z') := hide fun z z' hz hb => (HSC.out z').2 ⟨((HSC.out z).1 hz).1.trans (hb.mono ((HSC.out z).1 hz).1.size), ((HSC.out z).1 hz).2.1.stays hb, ((HSC.out z).1 hz).2.2.1.stays hb, ((HSC.out z).1 hz).2.2.2.stays hb⟩
      have K1 : Sc z9 := (HSC.out _).2 ⟨BB_13.out, BX_13.out, BY_13.out, BU_13.out⟩
      have K0 : Hid (Sc z9.drew) := hide (KP.out _ _ K1 (Below.refl _ _).drew)
      clear K1
      have hne : Nonempty (InC Sc) := ⟨⟨_, K0.out⟩⟩
      have yBX0 : ∀ s : InC Sc, s.z.cell? ⟨GBX, 0, none⟩ = some (.int .i64 op) := fun s => Lib.cell_of_heap ((HSC.out _).1 s.h).2.1 0
      have yBX1 : ∀ s : InC Sc, s.z.cell? ⟨GBX, 1, none⟩ = some (.int .i64 a) := fun s => Lib.cell_of_heap ((HSC.out _).1 s.h).2.1 1
      have yBX2 : ∀ s : InC Sc, s.z.cell? ⟨GBX, 2, none⟩ = some (.int .i64 b) := fun s => Lib.cell_of_heap ((HSC.out _).1 s.h).2.1 2
      have yBX3 : ∀ s : InC Sc, s.z.cell? ⟨GBX, 3, none⟩ = some (.int .i64 c) := fun s => Lib.cell_of_heap ((HSC.out _).1 s.h).2.1 3
      have yBY0 : ∀ s : InC Sc, s.z.cell? ⟨GBY, 0, none⟩ = some (.int .i64 op) := fun s => Lib.cell_of_heap ((HSC.out _).1 s.h).2.2.1 0
      have yBY1 : ∀ s : InC Sc, s.z.cell? ⟨GBY, 1, none⟩ = some (.int .i64 a) := fun s => Lib.cell_of_heap ((HSC.out _).1 s.h).2.2.1 1
      have yBY2 : ∀ s : InC Sc, s.z.cell? ⟨GBY, 2, none⟩ = some (.int .i64 b) := fun s => Lib.cell_of_heap ((HSC.out _).1 s.h).2.2.1 2
      have yBY3 : ∀ s : InC Sc, s.z.cell? ⟨GBY, 3, none⟩ = some (.int .i64 c) := fun s => Lib.cell_of_heap ((HSC.out _).1 s.h).2.2.1 3
      have yBU0 : ∀ s : InC Sc, s.z.cell? ⟨GBU, 0, none⟩ = some (.int .i64 p) := fun s => Lib.cell_of_heap ((HSC.out _).1 s.h).2.2.2 0
      have yBU1 : ∀ s : InC Sc, s.z.cell? ⟨GBU, 1, none⟩ = some (.int .i64 q) := fun s => Lib.cell_of_heap ((HSC.out _).1 s.h).2.2.2 1
      have yBU2 : ∀ s : InC Sc, s.z.cell? ⟨GBU, 2, none⟩ = some (.int .i64 r) := fun s => Lib.cell_of_heap ((HSC.out _).1 s.h).2.2.2 2
      have yBU3 : ∀ s : InC Sc, s.z.cell? ⟨GBU, 3, none⟩ = some (.int .i64 t) := fun s => Lib.cell_of_heap ((HSC.out _).1 s.h).2.2.2 3
      have CO := fun s : InC Sc => hide (calls_class s (fun w' hb => KP.out _ _ s.h hb) (HIO.out op a b c s.z))
      have CS0 := fun s : InC Sc => hide (calls_class s (fun w' hb => KP.out _ _ s.h hb) ((specInsOk_any op a b c s.z).mono fun _ _ h => ⟨h.1, by rw [h.2]; exact (Below.refl _ _).alloc (Nat.le_refl _) _⟩))
      have CH := fun s : InC Sc => hide (calls_class s (fun w' hb => KP.out _ _ s.h hb) (HIS.out op a b c s.z ((HSC.out _).1 s.h).1))
      have CH0 := fun s : InC Sc => hide (calls_class s (fun w' hb => KP.out _ _ s.h hb) (specShowIns_any op a b c s.z))
      simp only [hok] at CO CS0
      obtain ⟨sh, esh⟩ : ∃ t, showE op a b c = t := ⟨_, rfl⟩
      simp only [esh] at CH CH0
      clear esh eSc HIE HID HIO HIS HC
      have hux : (p = op ∧ q = a ∧ r = b ∧ t = c) ∨ ¬ p = op ∨ (p = op ∧ ¬ q = a) ∨ (p = op ∧ q = a ∧ ¬ r = b) ∨ (p = op ∧ q = a ∧ r = b ∧ ¬ t = c) := by omega
      rcases hux with ⟨rfl, rfl, rfl, rfl⟩ | h | ⟨rfl, h⟩ | ⟨rfl, rfl, h⟩ | ⟨rfl, rfl, rfl, h⟩
      · clear HEN
        go_wp2_with fail
        refine wp_region_class Sc (by kernel_rfl) (by kernel_rfl) K0.out ?_
        repeat (go_big_quiet_step ((first
          | (go_at_call 16; with_reducible exact unhide (CO _))
          | (go_at_call 15; with_reducible exact unhide (CS0 _))
          | (go_at_call 7; with_reducible exact unhide (CH _))
          | (go_at_call 5; with_reducible exact unhide (CH0 _)))))
        refine wpQuiet_nil ?_
        intro s
        have D := hide ((HSC.out _).1 s.h).1
        obtain ⟨z, hz⟩ := s
        dsimp only at D ⊢
        clear yBX0 yBX1 yBX2 yBX3 yBY0 yBY1 yBY2 yBY3 yBU0 yBU1 yBU2 yBU3
        go_wp2
        go_ret
        exact ⟨rfl, D.out⟩
      · have h9 : (p == op) = false := by simp [h]
        have hen : encI p q r t ≠ N := fun e => h (HEN.out p q r t hpq e).1
        obtain ⟨M, eM⟩ : ∃ M, encI p q r t = M := ⟨_, rfl⟩
        rw [eM] at hen ⊢
        clear eM HEN
        have hen2 : (M != N) = true := by simp [hen]
        go_wp2_with fail
        refine wp_region_class Sc (by kernel_rfl) (by kernel_rfl) K0.out ?_
        repeat (go_big_quiet_step ((first
          | (go_at_call 16; with_reducible exact unhide (CO _))
          | (go_at_call 15; with_reducible exact unhide (CS0 _))
          | (go_at_call 7; with_reducible exact unhide (CH _))
          | (go_at_call 5; with_reducible exact unhide (CH0 _)))))
        refine wpQuiet_nil ?_
        intro s
        have D := hide ((HSC.out _).1 s.h).1
        obtain ⟨z, hz⟩ := s
        dsimp only at D ⊢
        clear yBX0 yBX1 yBX2 yBX3 yBY0 yBY1 yBY2 yBY3 yBU0 yBU1 yBU2 yBU3
        go_wp2
        go_ret
        exact ⟨rfl, D.out⟩
      · have h9 : (q == a) = false := by simp [h]
        have hen : encI p q r t ≠ N := fun e => h (HEN.out p q r t hpq e).2.1
        obtain ⟨M, eM⟩ : ∃ M, encI p q r t = M := ⟨_, rfl⟩
        rw [eM] at hen ⊢
        clear eM HEN
        have hen2 : (M != N) = true := by simp [hen]
        go_wp2_with fail
        refine wp_region_class Sc (by kernel_rfl) (by kernel_rfl) K0.out ?_
        repeat (go_big_quiet_step ((first
          | (go_at_call 16; with_reducible exact unhide (CO _))
          | (go_at_call 15; with_reducible exact unhide (CS0 _))
          | (go_at_call 7; with_reducible exact unhide (CH _))
          | (go_at_call 5; with_reducible exact unhide (CH0 _)))))
        refine wpQuiet_nil ?_
        intro s
        have D := hide ((HSC.out _).1 s.h).1
        obtain ⟨z, hz⟩ := s
        dsimp only at D ⊢
        clear yBX0 yBX1 yBX2 yBX3 yBY0 yBY1 yBY2 yBY3 yBU0 yBU1 yBU2 yBU3
        go_wp2
        go_ret
        exact ⟨rfl, D.out⟩
      · have h9 : (r == b) = false := by simp [h]
        have hen : encI p q r t ≠ N := fun e => h (HEN.out p q r t hpq e).2.2.1
        obtain ⟨M, eM⟩ : ∃ M, encI p q r t = M := ⟨_, rfl⟩
        rw [eM] at hen ⊢
        clear eM HEN
        have hen2 : (M != N) = true := by simp [hen]
        go_wp2_with fail
        refine wp_region_class Sc (by kernel_rfl) (by kernel_rfl) K0.out ?_
        repeat (go_big_quiet_step ((first
          | (go_at_call 16; with_reducible exact unhide (CO _))
          | (go_at_call 15; with_reducible exact unhide (CS0 _))
          | (go_at_call 7; with_reducible exact unhide (CH _))
          | (go_at_call 5; with_reducible exact unhide (CH0 _)))))
        refine wpQuiet_nil ?_
        intro s
        have D := hide ((HSC.out _).1 s.h).1
        obtain ⟨z, hz⟩ := s
        dsimp only at D ⊢
        clear yBX0 yBX1 yBX2 yBX3 yBY0 yBY1 yBY2 yBY3 yBU0 yBU1 yBU2 yBU3
        go_wp2
        go_ret
        exact ⟨rfl, D.out⟩
      · have h9 : (t == c) = false := by simp [h]
        have hen : encI p q r t ≠ N := fun e => h (HEN.out p q r t hpq e).2.2.2
        obtain ⟨M, eM⟩ : ∃ M, encI p q r t = M := ⟨_, rfl⟩
        rw [eM] at hen ⊢
        clear eM HEN
        have hen2 : (M != N) = true := by simp [hen]
        go_wp2_with fail
        refine wp_region_class Sc (by kernel_rfl) (by kernel_rfl) K0.out ?_
        repeat (go_big_quiet_step ((first
          | (go_at_call 16; with_reducible exact unhide (CO _))
          | (go_at_call 15; with_reducible exact unhide (CS0 _))
          | (go_at_call 7; with_reducible exact unhide (CH _))
          | (go_at_call 5; with_reducible exact unhide (CH0 _)))))
        refine wpQuiet_nil ?_
        intro s
        have D := hide ((HSC.out _).1 s.h).1
        obtain ⟨z, hz⟩ := s
        dsimp only at D ⊢
        clear yBX0 yBX1 yBX2 yBX3 yBY0 yBY1 yBY2 yBY3 yBU0 yBU1 yBU2 yBU3
        go_wp2
        go_ret
        exact ⟨rfl, D.out⟩
    | true =>
      obtain ⟨⟨d0, d1, d2, d3⟩, ed⟩ : ∃ d, decE wd = d := ⟨_, rfl⟩
      have HBK := hide (enc_decE hmay)
      rw [ed] at HBK ⊢
      dsimp only at HBK ⊢
      have hba : Below z5.heap.size z5 (z5.alloc (.cells #[.int .i64 d0, .int .i64 d1, .int .i64 d2, .int .i64 d3] 25)) := (Below.refl _ _).alloc (Nat.le_refl _) _
      have BX_7 := hide (BX_6.out.stays hba)
      clear BX_6
      have BY_7 := hide (BY_6.out.stays hba)
      clear BY_6
      have BD_7 := hide (Box.made z5 #[.int .i64 d0, .int .i64 d1, .int .i64 d2, .int .i64 d3] 25)
      have BB_7 := hide (BB_6.out.trans (hba.mono BB_6.out.size))
      clear hba BB_6
      obtain ⟨Y7, hY⟩ : ∃ Z, z5.alloc (.cells #[.int .i64 d0, .int .i64 d1, .int .i64 d2, .int .i64 d3] 25) = Z := ⟨_, rfl⟩
      obtain ⟨GBD, hG⟩ : ∃ G, z5.heap.size = G := ⟨_, rfl⟩
      have HY7 := hide hY
      have HG7 := hide hG
      rw [hY] at BX_7 BY_7 BD_7 BB_7
      rw [hG] at BD_7
      clear hY hG
      go_upto_region 8 with fail
      rw [HY7.out, HG7.out]
      clear HY7 HG7
      go_wp2_with fail
      refine (specDecode_any wd _).mono ?_
      rintro e z6 ⟨rfl, hb⟩
      have BX_8 := hide (BX_7.out.stays hb)
      clear BX_7
      have BY_8 := hide (BY_7.out.stays hb)
      clear BY_7
      have BD_8 := hide (BD_7.out.stays hb)
      clear BD_7
      have BB_8 := hide (BB_7.out.trans (hb.mono BB_7.out.size))
      clear hb BB_7
      rw [hmay, ed]
      dsimp only
      have hba : Below z6.heap.size z6 (z6.alloc (.cells #[.int .i64 d0, .int .i64 d1, .int .i64 d2, .int .i64 d3] 25)) := (Below.refl _ _).alloc (Nat.le_refl _) _
      have BX_9 := hide (BX_8.out.stays hba)
      clear BX_8
      have BY_9 := hide (BY_8.out.stays hba)
      clear BY_8
      have BD_9 := hide (BD_8.out.stays hba)
      clear BD_8
      have BS_9 := hide (Box.made z6 #[.int .i64 d0, .int .i64 d1, .int .i64 d2, .int .i64 d3] 25)
      have BB_9 := hide (BB_8.out.trans (hba.mono BB_8.out.size))
      clear hba BB_8
      obtain ⟨Y9, hY⟩ : ∃ Z, z6.alloc (.cells #[.int .i64 d0, .int .i64 d1, .int .i64 d2, .int .i64 d3] 25) = Z := ⟨_, rfl⟩
      obtain ⟨GBS, hG⟩ : ∃ G, z6.heap.size = G := ⟨_, rfl⟩
      have HY9 := hide hY
      have HG9 := hide hG
      rw [hY] at BX_9 BY_9 BD_9 BS_9 BB_9
      rw [hG] at BS_9
      clear hY hG
      go_upto_region 9 with fail
      rw [HY9.out, HG9.out]
      clear HY9 HG9
      have qBD0 := Lib.cell_of_heap BD_9.out 0
      simp at qBD0
      have qBD1 := Lib.cell_of_heap BD_9.out 1
      simp at qBD1
      have qBD2 := Lib.cell_of_heap BD_9.out 2
      simp at qBD2
      have qBD3 := Lib.cell_of_heap BD_9.out 3
      simp at qBD3
      go_wp2_with fail
      clear qBD0 qBD1 qBD2 qBD3
      refine (HIE.out d0 d1 d2 d3 _).mono ?_
      rintro e z7 ⟨rfl, hb⟩
      have BX_10 := hide (BX_9.out.stays hb)
      clear BX_9
      have BY_10 := hide (BY_9.out.stays hb)
      clear BY_9
      have BD_10 := hide (BD_9.out.stays hb)
      clear BD_9
      have BS_10 := hide (BS_9.out.stays hb)
      clear BS_9
      have BB_10 := hide (BB_9.out.trans (hb.mono BB_9.out.size))
      clear hb BB_9
      rw [HBK.out]
      obtain ⟨bo, ebo⟩ : ∃ q, insB d0 d1 d2 d3 = q := ⟨_, rfl⟩
      rw [ebo]
      clear ebo HBK
      go_wp2_with fail
      refine (drawIns_any _ w.heap.size _ n hn (HC.out _ BB_10.out) BB_10.out.size).mono ?_
      rintro e z8 ⟨p, q, r, t, rfl, hpq, hb⟩
      have BX_11 := hide (BX_10.out.stays hb)
      clear BX_10
      have BY_11 := hide (BY_10.out.stays hb)
      clear BY_10
      have BD_11 := hide (BD_10.out.stays hb)
      clear BD_10
      have BS_11 := hide (BS_10.out.stays hb)
      clear BS_10
      have BB_11 := hide (BB_10.out.trans (hb.mono BB_10.out.size))
      clear hb BB_10
      have hba : Below z8.heap.size z8 (z8.alloc (.cells #[.int .i64 p, .int .i64 q, .int .i64 r, .int .i64 t] 25)) := (Below.refl _ _).alloc (Nat.le_refl _) _
      have BX_12 := hide (BX_11.out.stays hba)
      clear BX_11
      have BY_12 := hide (BY_11.out.stays hba)
      clear BY_11
      have BD_12 := hide (BD_11.out.stays hba)
      clear BD_11
      have BS_12 := hide (BS_11.out.stays hba)
      clear BS_11
      have BU_12 := hide (Box.made z8 #[.int .i64 p, .int .i64 q, .int .i64 r, .int .i64 t] 25)
      have BB_12 := hide (BB_11.out.trans (hba.mono BB_11.out.size))
      clear hba BB_11
      obtain ⟨Y12, hY⟩ : ∃ Z, z8.alloc (.cells #[.int .i64 p, .int .i64 q, .int .i64 r, .int .i64 t] 25) = Z := ⟨_, rfl⟩
      obtain ⟨GBU, hG⟩ : ∃ G, z8.heap.size = G := ⟨_, rfl⟩
      have HY12 := hide hY
      have HG12 := hide hG
      rw [hY] at BX_12 BY_12 BD_12 BS_12 BU_12 BB_12
      rw [hG] at BU_12
      clear hY hG
      go_upto_region 11 with fail
      rw [HY12.out, HG12.out]
      clear HY12 HG12
      have qBU0 := Lib.cell_of_heap BU_12.out 0
      simp at qBU0
      have qBU1 := Lib.cell_of_heap BU_12.out 1
      simp at qBU1
      have qBU2 := Lib.cell_of_heap BU_12.out 2
      simp at qBU2
      have qBU3 := Lib.cell_of_heap BU_12.out 3
      simp at qBU3
      go_wp2_with fail
      clear qBU0 qBU1 qBU2 qBU3
      refine (HIE.out p q r t _).mono ?_
      rintro e z9 ⟨rfl, hb⟩
      have BX_13 := hide (BX_12.out.stays hb)
      clear BX_12
      have BY_13 := hide (BY_12.out.stays hb)
      clear BY_12
      have BD_13 := hide (BD_12.out.stays hb)
      clear BD_12
      have BS_13 := hide (BS_12.out.stays hb)
      clear BS_12
      have BU_13 := hide (BU_12.out.stays hb)
      clear BU_12
      have BB_13 := hide (BB_12.out.trans (hb.mono BB_12.out.size))
      clear hb BB_12
      rw [hpq, if_pos rfl]
      obtain ⟨Sc, eSc⟩ : ∃ Sc : World → Prop, ∀ z, Sc z ↔ (Below w.heap.size w z ∧ Box z GBX #[.int .i64 op, .int .i64 a, .int .i64 b, .int .i64 c] 25 ∧ Box z GBY #[.int .i64 op, .int .i64 a, .int .i64 b, .int .i64 c] 25 ∧ Box z GBU #[.int .i64 p, .int .i64 q, .int .i64 r, .int .i64 t] 25) := ⟨_, fun _ => Iff.rfl⟩
      have HSC := hide eSc
      have KP : Hid (∀ z z', Sc z → Below z.heap.size z z' → Sc z') := hide fun z z' hz hb => (HSC.out z').2 ⟨((HSC.out z).1 hz).1.trans (hb.mono ((HSC.out z).1 hz).1.size), ((HSC.out z).1 hz).2.1.stays hb, ((HSC.out z).1 hz).2.2.1.stays hb, ((HSC.out z).1 hz).2.2.2.stays hb⟩
      have K1 : Sc z9 := (HSC.out _).2 ⟨BB_13.out, BX_13.out, BY_13.out, BU_13.out⟩
      have K0 : Hid (Sc z9.drew) := hide (KP.out _ _ K1 (Below.refl _ _).drew)
      clear K1
      have hne : Nonempty (InC Sc) := ⟨⟨_, K0.out⟩⟩
      have yBX0 : ∀ s : InC Sc, s.z.cell? ⟨GBX, 0, none⟩ = some (.int .i64 op) := fun s => Lib.cell_of_heap ((HSC.out _).1 s.h).2.1 0
      have yBX1 : ∀ s : InC Sc, s.z.cell? ⟨GBX, 1, none⟩ = some (.int .i64 a) := fun s => Lib.cell_of_heap ((HSC.out _).1 s.h).2.1 1
      have yBX2 : ∀ s : InC Sc, s.z.cell? ⟨GBX, 2, none⟩ = some (.int .i64 b) := fun s => Lib.cell_of_heap ((HSC.out _).1 s.h).2.1 2
      have yBX3 : ∀ s : InC Sc, s.z.cell? ⟨GBX, 3, none⟩ = some (.int .i64 c) := fun s => Lib.cell_of_heap ((HSC.out _).1 s.h).2.1 3
      have yBY0 : ∀ s : InC Sc, s.z.cell? ⟨GBY, 0, none⟩ = some (.int .i64 op) := fun s => Lib.cell_of_heap ((HSC.out _).1 s.h).2.2.1 0
      have yBY1 : ∀ s : InC Sc, s.z.cell? ⟨GBY, 1, none⟩ = some (.int .i64 a) := fun s => Lib.cell_of_heap ((HSC.out _).1 s.h).2.2.1 1
      have yBY2 : ∀ s : InC Sc, s.z.cell? ⟨GBY, 2, none⟩ = some (.int .i64 b) := fun s => Lib.cell_of_heap ((HSC.out _).1 s.h).2.2.1 2
      have yBY3 : ∀ s : InC Sc, s.z.cell? ⟨GBY, 3, none⟩ = some (.int .i64 c) := fun s => Lib.cell_of_heap ((HSC.out _).1 s.h).2.2.1 3
      have yBU0 : ∀ s : InC Sc, s.z.cell? ⟨GBU, 0, none⟩ = some (.int .i64 p) := fun s => Lib.cell_of_heap ((HSC.out _).1 s.h).2.2.2 0
      have yBU1 : ∀ s : InC Sc, s.z.cell? ⟨GBU, 1, none⟩ = some (.int .i64 q) := fun s => Lib.cell_of_heap ((HSC.out _).1 s.h).2.2.2 1
      have yBU2 : ∀ s : InC Sc, s.z.cell? ⟨GBU, 2, none⟩ = some (.int .i64 r) := fun s => Lib.cell_of_heap ((HSC.out _).1 s.h).2.2.2 2
      have yBU3 : ∀ s : InC Sc, s.z.cell? ⟨GBU, 3, none⟩ = some (.int .i64 t) := fun s => Lib.cell_of_heap ((HSC.out _).1 s.h).2.2.2 3
      have CO := fun s : InC Sc => hide (calls_class s (fun w' hb => KP.out _ _ s.h hb) (HIO.out op a b c s.z))
      have CS0 := fun s : InC Sc => hide (calls_class s (fun w' hb => KP.out _ _ s.h hb) ((specInsOk_any op a b c s.z).mono fun _ _ h => ⟨h.1, by rw [h.2]; exact (Below.refl _ _).alloc (Nat.le_refl _) _⟩))
      have CH := fun s : InC Sc => hide (calls_class s (fun w' hb => KP.out _ _ s.h hb) (HIS.out op a b c s.z ((HSC.out _).1 s.h).1))
      have CH0 := fun s : InC Sc => hide (calls_class s (fun w' hb => KP.out _ _ s.h hb) (specShowIns_any op a b c s.z))
      simp only [hok] at CO CS0
      obtain ⟨sh, esh⟩ : ∃ t, showE op a b c = t := ⟨_, rfl⟩
      simp only [esh] at CH CH0
      clear esh eSc HIE HID HIO HIS HC
      have hux : (p = op ∧ q = a ∧ r = b ∧ t = c) ∨ ¬ p = op ∨ (p = op ∧ ¬ q = a) ∨ (p = op ∧ q = a ∧ ¬ r = b) ∨ (p = op ∧ q = a ∧ r = b ∧ ¬ t = c) := by omega
      rcases hux with ⟨rfl, rfl, rfl, rfl⟩ | h | ⟨rfl, h⟩ | ⟨rfl, rfl, h⟩ | ⟨rfl, rfl, rfl, h⟩
      · clear HEN
        go_wp2_with fail
        refine wp_region_class Sc (by kernel_rfl) (by kernel_rfl) K0.out ?_
        repeat (go_big_quiet_step ((first
          | (go_at_call 16; with_reducible exact unhide (CO _))
          | (go_at_call 15; with_reducible exact unhide (CS0 _))
          | (go_at_call 7; with_reducible exact unhide (CH _))
          | (go_at_call 5; with_reducible exact unhide (CH0 _)))))
        refine wpQuiet_nil ?_
        intro s
        have D := hide ((HSC.out _).1 s.h).1
        obtain ⟨z, hz⟩ := s
        dsimp only at D ⊢
        clear yBX0 yBX1 yBX2 yBX3 yBY0 yBY1 yBY2 yBY3 yBU0 yBU1 yBU2 yBU3
        go_wp2
        go_ret
        exact ⟨rfl, D.out⟩
      · have h9 : (p == op) = false := by simp [h]
        have hen : encI p q r t ≠ N := fun e => h (HEN.out p q r t hpq e).1
        obtain ⟨M, eM⟩ : ∃ M, encI p q r t = M := ⟨_, rfl⟩
        rw [eM] at hen ⊢
        clear eM HEN
        have hen2 : (M != N) = true := by simp [hen]
        go_wp2_with fail
        refine wp_region_class Sc (by kernel_rfl) (by kernel_rfl) K0.out ?_
        repeat (go_big_quiet_step ((first
          | (go_at_call 16; with_reducible exact unhide (CO _))
          | (go_at_call 15; with_reducible exact unhide (CS0 _))
          | (go_at_call 7; with_reducible exact unhide (CH _))
          | (go_at_call 5; with_reducible exact unhide (CH0 _)))))
        refine wpQuiet_nil ?_
        intro s
        have D := hide ((HSC.out _).1 s.h).1
        obtain ⟨z, hz⟩ := s
        dsimp only at D ⊢
        clear yBX0 yBX1 yBX2 yBX3 yBY0 yBY1 yBY2 yBY3 yBU0 yBU1 yBU2 yBU3
        go_wp2
        go_ret
        exact ⟨rfl, D.out⟩
      · have h9 : (q == a) = false := by simp [h]
        have hen : encI p q r t ≠ N := fun e => h (HEN.out p q r t hpq e).2.1
        obtain ⟨M, eM⟩ : ∃ M, encI p q r t = M := ⟨_, rfl⟩
        rw [eM] at hen ⊢
        clear eM HEN
        have hen2 : (M != N) = true := by simp [hen]
        go_wp2_with fail
        refine wp_region_class Sc (by kernel_rfl) (by kernel_rfl) K0.out ?_
        repeat (go_big_quiet_step ((first
          | (go_at_call 16; with_reducible exact unhide (CO _))
          | (go_at_call 15; with_reducible exact unhide (CS0 _))
          | (go_at_call 7; with_reducible exact unhide (CH _))
          | (go_at_call 5; with_reducible exact unhide (CH0 _)))))
        refine wpQuiet_nil ?_
        intro s
        have D := hide ((HSC.out _).1 s.h).1
        obtain ⟨z, hz⟩ := s
        dsimp only at D ⊢
        clear yBX0 yBX1 yBX2 yBX3 yBY0 yBY1 yBY2 yBY3 yBU0 yBU1 yBU2 yBU3
        go_wp2
        go_ret
        exact ⟨rfl, D.out⟩
      · have h9 : (r == b) = false := by simp [h]
        have hen : encI p q r t ≠ N := fun e => h (HEN.out p q r t hpq e).2.2.1
        obtain ⟨M, eM⟩ : ∃ M, encI p q r t = M := ⟨_, rfl⟩
        rw [eM] at hen ⊢
        clear eM HEN
        have hen2 : (M != N) = true := by simp [hen]
        go_wp2_with fail
        refine wp_region_class Sc (by kernel_rfl) (by kernel_rfl) K0.out ?_
        repeat (go_big_quiet_step ((first
          | (go_at_call 16; with_reducible exact unhide (CO _))
          | (go_at_call 15; with_reducible exact unhide (CS0 _))
          | (go_at_call 7; with_reducible exact unhide (CH _))
          | (go_at_call 5; with_reducible exact unhide (CH0 _)))))
        refine wpQuiet_nil ?_
        intro s
        have D := hide ((HSC.out _).1 s.h).1
        obtain ⟨z, hz⟩ := s
        dsimp only at D ⊢
        clear yBX0 yBX1 yBX2 yBX3 yBY0 yBY1 yBY2 yBY3 yBU0 yBU1 yBU2 yBU3
        go_wp2
        go_ret
        exact ⟨rfl, D.out⟩
      · have h9 : (t == c) = false := by simp [h]
        have hen : encI p q r t ≠ N := fun e => h (HEN.out p q r t hpq e).2.2.2
        obtain ⟨M, eM⟩ : ∃ M, encI p q r t = M := ⟨_, rfl⟩
        rw [eM] at hen ⊢
        clear eM HEN
        have hen2 : (M != N) = true := by simp [hen]
        go_wp2_with fail
        refine wp_region_class Sc (by kernel_rfl) (by kernel_rfl) K0.out ?_
        repeat (go_big_quiet_step ((first
          | (go_at_call 16; with_reducible exact unhide (CO _))
          | (go_at_call 15; with_reducible exact unhide (CS0 _))
          | (go_at_call 7; with_reducible exact unhide (CH _))
          | (go_at_call 5; with_reducible exact unhide (CH0 _)))))
        refine wpQuiet_nil ?_
        intro s
        have D := hide ((HSC.out _).1 s.h).1
        obtain ⟨z, hz⟩ := s
        dsimp only at D ⊢
        clear yBX0 yBX1 yBX2 yBX3 yBY0 yBY1 yBY2 yBY3 yBU0 yBU1 yBU2 yBU3
        go_wp2
        go_ret
        exact ⟨rfl, D.out⟩
  | false =>
    have hba : Below z1.heap.size z1 (z1.alloc (.cells #[.int .i64 op, .int .i64 a, .int .i64 b, .int .i64 c] 25)) := (Below.refl _ _).alloc (Nat.le_refl _) _
    have BX_1 := hide (Box.made z1 #[.int .i64 op, .int .i64 a, .int .i64 b, .int .i64 c] 25)
    have BB_1 := hide (BB.out.trans (hba.mono BB.out.size))
    clear hba BB
    obtain ⟨Y1, hY⟩ : ∃ Z, z1.alloc (.cells #[.int .i64 op, .int .i64 a, .int .i64 b, .int .i64 c] 25) = Z := ⟨_, rfl⟩
    obtain ⟨GBX, hG⟩ : ∃ G, z1.heap.size = G := ⟨_, rfl⟩
    have HY1 := hide hY
    have HG1 := hide hG
    rw [hY] at BX_1 BB_1
    rw [hG] at BX_1
    clear hY hG
    go_upto_region 4 with fail
    rw [HY1.out, HG1.out]
    clear HY1 HG1
    have qBX0 := Lib.cell_of_heap BX_1.out 0
    simp at qBX0
    have qBX1 := Lib.cell_of_heap BX_1.out 1
    simp at qBX1
    have qBX2 := Lib.cell_of_heap BX_1.out 2
    simp at qBX2
    have qBX3 := Lib.cell_of_heap BX_1.out 3
    simp at qBX3
    go_wp2_with fail
    clear qBX0 qBX1 qBX2 qBX3
    refine (HIE.out op a b c _).mono ?_
    rintro e z2 ⟨rfl, hb⟩
    have BX_2 := hide (BX_1.out.stays hb)
    clear BX_1
    have BB_2 := hide (BB_1.out.trans (hb.mono BB_1.out.size))
    clear hb BB_1
    rw [hok]
    rw [if_neg (by decide)]
    go_wp2_with fail
    refine (HID.out (0) _).mono ?_
    rintro e z3 ⟨rfl, hb⟩
    have BX_3 := hide (BX_2.out.stays hb)
    clear BX_2
    have BB_3 := hide (BB_2.out.trans (hb.mono BB_2.out.size))
    clear hb BB_2
    rw [decE_no decB_zero, decB_zero]
    dsimp only
    have hba : Below z3.heap.size z3 (z3.alloc (.cells #[.int .i64 0, .int .i64 0, .int .i64 0, .int .i64 0] 25)) := (Below.refl _ _).alloc (Nat.le_refl _) _
    have BX_4 := hide (BX_3.out.stays hba)
    clear BX_3
    have BY_4 := hide (Box.made z3 #[.int .i64 0, .int .i64 0, .int .i64 0, .int .i64 0] 25)
    have BB_4 := hide (BB_3.out.trans (hba.mono BB_3.out.size))
    clear hba BB_3
    obtain ⟨Y4, hY⟩ : ∃ Z, z3.alloc (.cells #[.int .i64 0, .int .i64 0, .int .i64 0, .int .i64 0] 25) = Z := ⟨_, rfl⟩
    obtain ⟨GBY, hG⟩ : ∃ G, z3.heap.size = G := ⟨_, rfl⟩
    have HY4 := hide hY
    have HG4 := hide hG
    rw [hY] at BX_4 BY_4 BB_4
    rw [hG] at BY_4
    clear hY hG
    go_upto_region 6 with fail
    rw [HY4.out, HG4.out]
    clear HY4 HG4
    go_wp2_with fail
    refine (drawDecode_any _ w.heap.size _ n hn (HC.out _ BB_4.out) BB_4.out.size).mono ?_
    rintro e z4 ⟨wd, rfl, hb⟩
    have BX_5 := hide (BX_4.out.stays hb)
    clear BX_4
    have BY_5 := hide (BY_4.out.stays hb)
    clear BY_4
    have BB_5 := hide (BB_4.out.trans (hb.mono BB_4.out.size))
    clear hb BB_4
    go_wp2_with fail
    refine (HID.out wd _).mono ?_
    rintro e z5 ⟨rfl, hb⟩
    have BX_6 := hide (BX_5.out.stays hb)
    clear BX_5
    have BY_6 := hide (BY_5.out.stays hb)
    clear BY_5
    have BB_6 := hide (BB_5.out.trans (hb.mono BB_5.out.size))
    clear hb BB_5
    cases hmay : decB wd with
    | false =>
      have ed := decE_no hmay
      rw [ed]
      dsimp only
      have hba : Below z5.heap.size z5 (z5.alloc (.cells #[.int .i64 0, .int .i64 0, .int .i64 0, .int .i64 0] 25)) := (Below.refl _ _).alloc (Nat.le_refl _) _
      have BX_7 := hide (BX_6.out.stays hba)
      clear BX_6
      have BY_7 := hide (BY_6.out.stays hba)
      clear BY_6
      have BD_7 := hide (Box.made z5 #[.int .i64 0, .int .i64 0, .int .i64 0, .int .i64 0] 25)
      have BB_7 := hide (BB_6.out.trans (hba.mono BB_6.out.size))
      clear hba BB_6
      obtain ⟨Y7, hY⟩ : ∃ Z, z5.alloc (.cells #[.int .i64 0, .int .i64 0, .int .i64 0, .int .i64 0] 25) = Z := ⟨_, rfl⟩
      obtain ⟨GBD, hG⟩ : ∃ G, z5.heap.size = G := ⟨_, rfl⟩
      have HY7 := hide hY
      have HG7 := hide hG
      rw [hY] at BX_7 BY_7 BD_7 BB_7
      rw [hG] at BD_7
      clear hY hG
      go_upto_region 8 with fail
      rw [HY7.out, HG7.out]
      clear HY7 HG7
      go_wp2_with fail
      refine (specDecode_any wd _).mono ?_
      rintro e z6 ⟨rfl, hb⟩
      have BX_8 := hide (BX_7.out.stays hb)
      clear BX_7
      have BY_8 := hide (BY_7.out.stays hb)
      clear BY_7
      have BD_8 := hide (BD_7.out.stays hb)
      clear BD_7
      have BB_8 := hide (BB_7.out.trans (hb.mono BB_7.out.size))
      clear hb BB_7
      rw [hmay, ed]
      dsimp only
      have hba : Below z6.heap.size z6 (z6.alloc (.cells #[.int .i64 0, .int .i64 0, .int .i64 0, .int .i64 0] 25)) := (Below.refl _ _).alloc (Nat.le_refl _) _
      have BX_9 := hide (BX_8.out.stays hba)
      clear BX_8
      have BY_9 := hide (BY_8.out.stays hba)
      clear BY_8
      have BD_9 := hide (BD_8.out.stays hba)
      clear BD_8
      have BS_9 := hide (Box.made z6 #[.int .i64 0, .int .i64 0, .int .i64 0, .int .i64 0] 25)
      have BB_9 := hide (BB_8.out.trans (hba.mono BB_8.out.size))
      clear hba BB_8
      obtain ⟨Y9, hY⟩ : ∃ Z, z6.alloc (.cells #[.int .i64 0, .int .i64 0, .int .i64 0, .int .i64 0] 25) = Z := ⟨_, rfl⟩
      obtain ⟨GBS, hG⟩ : ∃ G, z6.heap.size = G := ⟨_, rfl⟩
      have HY9 := hide hY
      have HG9 := hide hG
      rw [hY] at BX_9 BY_9 BD_9 BS_9 BB_9
      rw [hG] at BS_9
      clear hY hG
      go_upto_region 9 with fail
      rw [HY9.out, HG9.out]
      clear HY9 HG9
      have qBD0 := Lib.cell_of_heap BD_9.out 0
      simp at qBD0
      have qBD1 := Lib.cell_of_heap BD_9.out 1
      simp at qBD1
      have qBD2 := Lib.cell_of_heap BD_9.out 2
      simp at qBD2
      have qBD3 := Lib.cell_of_heap BD_9.out 3
      simp at qBD3
      go_wp2_with fail
      clear qBD0 qBD1 qBD2 qBD3
      refine (HIE.out 0 0 0 0 _).mono ?_
      rintro e z7 ⟨rfl, hb⟩
      have BX_10 := hide (BX_9.out.stays hb)
      clear BX_9
      have BY_10 := hide (BY_9.out.stays hb)
      clear BY_9
      have BD_10 := hide (BD_9.out.stays hb)
      clear BD_9
      have BS_10 := hide (BS_9.out.stays hb)
      clear BS_9
      have BB_10 := hide (BB_9.out.trans (hb.mono BB_9.out.size))
      clear hb BB_9
      rw [show insB 0 0 0 0 = false from by decide, if_neg (by decide)]
      go_wp2_with fail
      refine (drawIns_any _ w.heap.size _ n hn (HC.out _ BB_10.out) BB_10.out.size).mono ?_
      rintro e z8 ⟨p, q, r, t, rfl, hpq, hb⟩
      have BX_11 := hide (BX_10.out.stays hb)
      clear BX_10
      have BY_11 := hide (BY_10.out.stays hb)
      clear BY_10
      have BD_11 := hide (BD_10.out.stays hb)
      clear BD_10
      have BS_11 := hide (BS_10.out.stays hb)
      clear BS_10
      have BB_11 := hide (BB_10.out.trans (hb.mono BB_10.out.size))
      clear hb BB_10
      have hba : Below z8.heap.size z8 (z8.alloc (.cells #[.int .i64 p, .int .i64 q, .int .i64 r, .int .i64 t] 25)) := (Below.refl _ _).alloc (Nat.le_refl _) _
      have BX_12 := hide (BX_11.out.stays hba)
      clear BX_11
      have BY_12 := hide (BY_11.out.stays hba)
      clear BY_11
      have BD_12 := hide (BD_11.out.stays hba)
      clear BD_11
      have BS_12 := hide (BS_11.out.stays hba)
      clear BS_11
      have BU_12 := hide (Box.made z8 #[.int .i64 p, .int .i64 q, .int .i64 r, .int .i64 t] 25)
      have BB_12 := hide (BB_11.out.trans (hba.mono BB_11.out.size))
      clear hba BB_11
      obtain ⟨Y12, hY⟩ : ∃ Z, z8.alloc (.cells #[.int .i64 p, .int .i64 q, .int .i64 r, .int .i64 t] 25) = Z := ⟨_, rfl⟩
      obtain ⟨GBU, hG⟩ : ∃ G, z8.heap.size = G := ⟨_, rfl⟩
      have HY12 := hide hY
      have HG12 := hide hG
      rw [hY] at BX_12 BY_12 BD_12 BS_12 BU_12 BB_12
      rw [hG] at BU_12
      clear hY hG
      go_upto_region 11 with fail
      rw [HY12.out, HG12.out]
      clear HY12 HG12
      have qBU0 := Lib.cell_of_heap BU_12.out 0
      simp at qBU0
      have qBU1 := Lib.cell_of_heap BU_12.out 1
      simp at qBU1
      have qBU2 := Lib.cell_of_heap BU_12.out 2
      simp at qBU2
      have qBU3 := Lib.cell_of_heap BU_12.out 3
      simp at qBU3
      go_wp2_with fail
      clear qBU0 qBU1 qBU2 qBU3
      refine (HIE.out p q r t _).mono ?_
      rintro e z9 ⟨rfl, hb⟩
      have BX_13 := hide (BX_12.out.stays hb)
      clear BX_12
      have BY_13 := hide (BY_12.out.stays hb)
      clear BY_12
      have BD_13 := hide (BD_12.out.stays hb)
      clear BD_12
      have BS_13 := hide (BS_12.out.stays hb)
      clear BS_12
      have BU_13 := hide (BU_12.out.stays hb)
      clear BU_12
      have BB_13 := hide (BB_12.out.trans (hb.mono BB_12.out.size))
      clear hb BB_12
      rw [hpq, if_pos rfl]
      obtain ⟨Sc, eSc⟩ : ∃ Sc : World → Prop, ∀ z, Sc z ↔ (Below w.heap.size w z ∧ Box z GBX #[.int .i64 op, .int .i64 a, .int .i64 b, .int .i64 c] 25 ∧ Box z GBY #[.int .i64 0, .int .i64 0, .int .i64 0, .int .i64 0] 25 ∧ Box z GBU #[.int .i64 p, .int .i64 q, .int .i64 r, .int .i64 t] 25) := ⟨_, fun _ => Iff.rfl⟩
      have HSC := hide eSc
      have KP : Hid (∀ z z', Sc z → Below z.heap.size z z' → Sc z') := hide fun z z' hz hb => (HSC.out z').2 ⟨((HSC.out z).1 hz).1.trans (hb.mono ((HSC.out z).1 hz).1.size), ((HSC.out z).1 hz).2.1.stays hb, ((HSC.out z).1 hz).2.2.1.stays hb, ((HSC.out z).1 hz).2.2.2.stays hb⟩
      have K1 : Sc z9 := (HSC.out _).2 ⟨BB_13.out, BX_13.out, BY_13.out, BU_13.out⟩
      have K0 : Hid (Sc z9.drew) := hide (KP.out _ _ K1 (Below.refl _ _).drew)
      clear K1
      have hne : Nonempty (InC Sc) := ⟨⟨_, K0.out⟩⟩
      have yBX0 : ∀ s : InC Sc, s.z.cell? ⟨GBX, 0, none⟩ = some (.int .i64 op) := fun s => Lib.cell_of_heap ((HSC.out _).1 s.h).2.1 0
      have yBX1 : ∀ s : InC Sc, s.z.cell? ⟨GBX, 1, none⟩ = some (.int .i64 a) := fun s => Lib.cell_of_heap ((HSC.out _).1 s.h).2.1 1
      have yBX2 : ∀ s : InC Sc, s.z.cell? ⟨GBX, 2, none⟩ = some (.int .i64 b) := fun s => Lib.cell_of_heap ((HSC.out _).1 s.h).2.1 2
      have yBX3 : ∀ s : InC Sc, s.z.cell? ⟨GBX, 3, none⟩ = some (.int .i64 c) := fun s => Lib.cell_of_heap ((HSC.out _).1 s.h).2.1 3
      have yBY0 : ∀ s : InC Sc, s.z.cell? ⟨GBY, 0, none⟩ = some (.int .i64 0) := fun s => Lib.cell_of_heap ((HSC.out _).1 s.h).2.2.1 0
      have yBY1 : ∀ s : InC Sc, s.z.cell? ⟨GBY, 1, none⟩ = some (.int .i64 0) := fun s => Lib.cell_of_heap ((HSC.out _).1 s.h).2.2.1 1
      have yBY2 : ∀ s : InC Sc, s.z.cell? ⟨GBY, 2, none⟩ = some (.int .i64 0) := fun s => Lib.cell_of_heap ((HSC.out _).1 s.h).2.2.1 2
      have yBY3 : ∀ s : InC Sc, s.z.cell? ⟨GBY, 3, none⟩ = some (.int .i64 0) := fun s => Lib.cell_of_heap ((HSC.out _).1 s.h).2.2.1 3
      have yBU0 : ∀ s : InC Sc, s.z.cell? ⟨GBU, 0, none⟩ = some (.int .i64 p) := fun s => Lib.cell_of_heap ((HSC.out _).1 s.h).2.2.2 0
      have yBU1 : ∀ s : InC Sc, s.z.cell? ⟨GBU, 1, none⟩ = some (.int .i64 q) := fun s => Lib.cell_of_heap ((HSC.out _).1 s.h).2.2.2 1
      have yBU2 : ∀ s : InC Sc, s.z.cell? ⟨GBU, 2, none⟩ = some (.int .i64 r) := fun s => Lib.cell_of_heap ((HSC.out _).1 s.h).2.2.2 2
      have yBU3 : ∀ s : InC Sc, s.z.cell? ⟨GBU, 3, none⟩ = some (.int .i64 t) := fun s => Lib.cell_of_heap ((HSC.out _).1 s.h).2.2.2 3
      have CO := fun s : InC Sc => hide (calls_class s (fun w' hb => KP.out _ _ s.h hb) (HIO.out op a b c s.z))
      have CS0 := fun s : InC Sc => hide (calls_class s (fun w' hb => KP.out _ _ s.h hb) ((specInsOk_any op a b c s.z).mono fun _ _ h => ⟨h.1, by rw [h.2]; exact (Below.refl _ _).alloc (Nat.le_refl _) _⟩))
      have CH := fun s : InC Sc => hide (calls_class s (fun w' hb => KP.out _ _ s.h hb) (HIS.out op a b c s.z ((HSC.out _).1 s.h).1))
      have CH0 := fun s : InC Sc => hide (calls_class s (fun w' hb => KP.out _ _ s.h hb) (specShowIns_any op a b c s.z))
      simp only [hok] at CO CS0
      obtain ⟨sh, esh⟩ : ∃ t, showE op a b c = t := ⟨_, rfl⟩
      simp only [esh] at CH CH0
      clear esh eSc HIE HID HIO HIS HC
      have hux : (p = op ∧ q = a ∧ r = b ∧ t = c) ∨ ¬ p = op ∨ (p = op ∧ ¬ q = a) ∨ (p = op ∧ q = a ∧ ¬ r = b) ∨ (p = op ∧ q = a ∧ r = b ∧ ¬ t = c) := by omega
      rcases hux with ⟨rfl, rfl, rfl, rfl⟩ | h | ⟨rfl, h⟩ | ⟨rfl, rfl, h⟩ | ⟨rfl, rfl, rfl, h⟩
      · rw [hok] at hpq
        cases hpq
      · have h9 : (p == op) = false := by simp [h]
        obtain ⟨M, eM⟩ : ∃ M, encI p q r t = M := ⟨_, rfl⟩
        rw [eM]
        clear eM
        go_wp2_with fail
        refine wp_region_class Sc (by kernel_rfl) (by kernel_rfl) K0.out ?_
        repeat (go_big_quiet_step ((first
          | (go_at_call 16; with_reducible exact unhide (CO _))
          | (go_at_call 15; with_reducible exact unhide (CS0 _))
          | (go_at_call 7; with_reducible exact unhide (CH _))
          | (go_at_call 5; with_reducible exact unhide (CH0 _)))))
        refine wpQuiet_nil ?_
        intro s
        have D := hide ((HSC.out _).1 s.h).1
        obtain ⟨z, hz⟩ := s
        dsimp only at D ⊢
        clear yBX0 yBX1 yBX2 yBX3 yBY0 yBY1 yBY2 yBY3 yBU0 yBU1 yBU2 yBU3
        go_wp2
        go_ret
        exact ⟨rfl, D.out⟩
      · have h9 : (q == a) = false := by simp [h]
        obtain ⟨M, eM⟩ : ∃ M, encI p q r t = M := ⟨_, rfl⟩
        rw [eM]
        clear eM
        go_wp2_with fail
        refine wp_region_class Sc (by kernel_rfl) (by kernel_rfl) K0.out ?_
        repeat (go_big_quiet_step ((first
          | (go_at_call 16; with_reducible exact unhide (CO _))
          | (go_at_call 15; with_reducible exact unhide (CS0 _))
          | (go_at_call 7; with_reducible exact unhide (CH _))
          | (go_at_call 5; with_reducible exact unhide (CH0 _)))))
        refine wpQuiet_nil ?_
        intro s
        have D := hide ((HSC.out _).1 s.h).1
        obtain ⟨z, hz⟩ := s
        dsimp only at D ⊢
        clear yBX0 yBX1 yBX2 yBX3 yBY0 yBY1 yBY2 yBY3 yBU0 yBU1 yBU2 yBU3
        go_wp2
        go_ret
        exact ⟨rfl, D.out⟩
      · have h9 : (r == b) = false := by simp [h]
        obtain ⟨M, eM⟩ : ∃ M, encI p q r t = M := ⟨_, rfl⟩
        rw [eM]
        clear eM
        go_wp2_with fail
        refine wp_region_class Sc (by kernel_rfl) (by kernel_rfl) K0.out ?_
        repeat (go_big_quiet_step ((first
          | (go_at_call 16; with_reducible exact unhide (CO _))
          | (go_at_call 15; with_reducible exact unhide (CS0 _))
          | (go_at_call 7; with_reducible exact unhide (CH _))
          | (go_at_call 5; with_reducible exact unhide (CH0 _)))))
        refine wpQuiet_nil ?_
        intro s
        have D := hide ((HSC.out _).1 s.h).1
        obtain ⟨z, hz⟩ := s
        dsimp only at D ⊢
        clear yBX0 yBX1 yBX2 yBX3 yBY0 yBY1 yBY2 yBY3 yBU0 yBU1 yBU2 yBU3
        go_wp2
        go_ret
        exact ⟨rfl, D.out⟩
      · have h9 : (t == c) = false := by simp [h]
        obtain ⟨M, eM⟩ : ∃ M, encI p q r t = M := ⟨_, rfl⟩
        rw [eM]
        clear eM
        go_wp2_with fail
        refine wp_region_class Sc (by kernel_rfl) (by kernel_rfl) K0.out ?_
        repeat (go_big_quiet_step ((first
          | (go_at_call 16; with_reducible exact unhide (CO _))
          | (go_at_call 15; with_reducible exact unhide (CS0 _))
          | (go_at_call 7; with_reducible exact unhide (CH _))
          | (go_at_call 5; with_reducible exact unhide (CH0 _)))))
        refine wpQuiet_nil ?_
        intro s
        have D := hide ((HSC.out _).1 s.h).1
        obtain ⟨z, hz⟩ := s
        dsimp only at D ⊢
        clear yBX0 yBX1 yBX2 yBX3 yBY0 yBY1 yBY2 yBY3 yBU0 yBU1 yBU2 yBU3
        go_wp2
        go_ret
        exact ⟨rfl, D.out⟩
    | true =>
      obtain ⟨⟨d0, d1, d2, d3⟩, ed⟩ : ∃ d, decE wd = d := ⟨_, rfl⟩
      have HBK := hide (enc_decE hmay)
      rw [ed] at HBK ⊢
      dsimp only at HBK ⊢
      have hba : Below z5.heap.size z5 (z5.alloc (.cells #[.int .i64 d0, .int .i64 d1, .int .i64 d2, .int .i64 d3] 25)) := (Below.refl _ _).alloc (Nat.le_refl _) _
      have BX_7 := hide (BX_6.out.stays hba)
      clear BX_6
      have BY_7 := hide (BY_6.out.stays hba)
      clear BY_6
      have BD_7 := hide (Box.made z5 #[.int .i64 d0, .int .i64 d1, .int .i64 d2, .int .i64 d3] 25)
      have BB_7 := hide (BB_6.out.trans (hba.mono BB_6.out.size))
      clear hba BB_6
      obtain ⟨Y7, hY⟩ : ∃ Z, z5.alloc (.cells #[.int .i64 d0, .int .i64 d1, .int .i64 d2, .int .i64 d3] 25) = Z := ⟨_, rfl⟩
      obtain ⟨GBD, hG⟩ : ∃ G, z5.heap.size = G := ⟨_, rfl⟩
      have HY7 := hide hY
      have HG7 := hide hG
      rw [hY] at BX_7 BY_7 BD_7 BB_7
      rw [hG] at BD_7
      clear hY hG
      go_upto_region 8 with fail
      rw [HY7.out, HG7.out]
      clear HY7 HG7
      go_wp2_with fail
      refine (specDecode_any wd _).mono ?_
      rintro e z6 ⟨rfl, hb⟩
      have BX_8 := hide (BX_7.out.stays hb)
      clear BX_7
      have BY_8 := hide (BY_7.out.stays hb)
      clear BY_7
      have BD_8 := hide (BD_7.out.stays hb)
      clear BD_7
      have BB_8 := hide (BB_7.out.trans (hb.mono BB_7.out.size))
      clear hb BB_7
      rw [hmay, ed]
      dsimp only
      have hba : Below z6.heap.size z6 (z6.alloc (.cells #[.int .i64 d0, .int .i64 d1, .int .i64 d2, .int .i64 d3] 25)) := (Below.refl _ _).alloc (Nat.le_refl _) _
      have BX_9 := hide (BX_8.out.stays hba)
      clear BX_8
      have BY_9 := hide (BY_8.out.stays hba)
      clear BY_8
      have BD_9 := hide (BD_8.out.stays hba)
      clear BD_8
      have BS_9 := hide (Box.made z6 #[.int .i64 d0, .int .i64 d1, .int .i64 d2, .int .i64 d3] 25)
      have BB_9 := hide (BB_8.out.trans (hba.mono BB_8.out.size))
      clear hba BB_8
      obtain ⟨Y9, hY⟩ : ∃ Z, z6.alloc (.cells #[.int .i64 d0, .int .i64 d1, .int .i64 d2, .int .i64 d3] 25) = Z := ⟨_, rfl⟩
      obtain ⟨GBS, hG⟩ : ∃ G, z6.heap.size = G := ⟨_, rfl⟩
      have HY9 := hide hY
      have HG9 := hide hG
      rw [hY] at BX_9 BY_9 BD_9 BS_9 BB_9
      rw [hG] at BS_9
      clear hY hG
      go_upto_region 9 with fail
      rw [HY9.out, HG9.out]
      clear HY9 HG9
      have qBD0 := Lib.cell_of_heap BD_9.out 0
      simp at qBD0
      have qBD1 := Lib.cell_of_heap BD_9.out 1
      simp at qBD1
      have qBD2 := Lib.cell_of_heap BD_9.out 2
      simp at qBD2
      have qBD3 := Lib.cell_of_heap BD_9.out 3
      simp at qBD3
      go_wp2_with fail
      clear qBD0 qBD1 qBD2 qBD3
      refine (HIE.out d0 d1 d2 d3 _).mono ?_
      rintro e z7 ⟨rfl, hb⟩
      have BX_10 := hide (BX_9.out.stays hb)
      clear BX_9
      have BY_10 := hide (BY_9.out.stays hb)
      clear BY_9
      have BD_10 := hide (BD_9.out.stays hb)
      clear BD_9
      have BS_10 := hide (BS_9.out.stays hb)
      clear BS_9
      have BB_10 := hide (BB_9.out.trans (hb.mono BB_9.out.size))
      clear hb BB_9
      rw [HBK.out]
      obtain ⟨bo, ebo⟩ : ∃ q, insB d0 d1 d2 d3 = q := ⟨_, rfl⟩
      rw [ebo]
      clear ebo HBK
      go_wp2_with fail
      refine (drawIns_any _ w.heap.size _ n hn (HC.out _ BB_10.out) BB_10.out.size).mono ?_
      rintro e z8 ⟨p, q, r, t, rfl, hpq, hb⟩
      have BX_11 := hide (BX_10.out.stays hb)
      clear BX_10
      have BY_11 := hide (BY_10.out.stays hb)
      clear BY_10
      have BD_11 := hide (BD_10.out.stays hb)
      clear BD_10
      have BS_11 := hide (BS_10.out.stays hb)
      clear BS_10
      have BB_11 := hide (BB_10.out.trans (hb.mono BB_10.out.size))
      clear hb BB_10
      have hba : Below z8.heap.size z8 (z8.alloc (.cells #[.int .i64 p, .int .i64 q, .int .i64 r, .int .i64 t] 25)) := (Below.refl _ _).alloc (Nat.le_refl _) _
      have BX_12 := hide (BX_11.out.stays hba)
      clear BX_11
      have BY_12 := hide (BY_11.out.stays hba)
      clear BY_11
      have BD_12 := hide (BD_11.out.stays hba)
      clear BD_11
      have BS_12 := hide (BS_11.out.stays hba)
      clear BS_11
      have BU_12 := hide (Box.made z8 #[.int .i64 p, .int .i64 q, .int .i64 r, .int .i64 t] 25)
      have BB_12 := hide (BB_11.out.trans (hba.mono BB_11.out.size))
      clear hba BB_11
      obtain ⟨Y12, hY⟩ : ∃ Z, z8.alloc (.cells #[.int .i64 p, .int .i64 q, .int .i64 r, .int .i64 t] 25) = Z := ⟨_, rfl⟩
      obtain ⟨GBU, hG⟩ : ∃ G, z8.heap.size = G := ⟨_, rfl⟩
      have HY12 := hide hY
      have HG12 := hide hG
      rw [hY] at BX_12 BY_12 BD_12 BS_12 BU_12 BB_12
      rw [hG] at BU_12
      clear hY hG
      go_upto_region 11 with fail
      rw [HY12.out, HG12.out]
      clear HY12 HG12
      have qBU0 := Lib.cell_of_heap BU_12.out 0
      simp at qBU0
      have qBU1 := Lib.cell_of_heap BU_12.out 1
      simp at qBU1
      have qBU2 := Lib.cell_of_heap BU_12.out 2
      simp at qBU2
      have qBU3 := Lib.cell_of_heap BU_12.out 3
      simp at qBU3
      go_wp2_with fail
      clear qBU0 qBU1 qBU2 qBU3
      refine (HIE.out p q r t _).mono ?_
      rintro e z9 ⟨rfl, hb⟩
      have BX_13 := hide (BX_12.out.stays hb)
      clear BX_12
      have BY_13 := hide (BY_12.out.stays hb)
      clear BY_12
      have BD_13 := hide (BD_12.out.stays hb)
      clear BD_12
      have BS_13 := hide (BS_12.out.stays hb)
      clear BS_12
      have BU_13 := hide (BU_12.out.stays hb)
      clear BU_12
      have BB_13 := hide (BB_12.out.trans (hb.mono BB_12.out.size))
      clear hb BB_12
      rw [hpq, if_pos rfl]
      obtain ⟨Sc, eSc⟩ : ∃ Sc : World → Prop, ∀ z, Sc z ↔ (Below w.heap.size w z ∧ Box z GBX #[.int .i64 op, .int .i64 a, .int .i64 b, .int .i64 c] 25 ∧ Box z GBY #[.int .i64 0, .int .i64 0, .int .i64 0, .int .i64 0] 25 ∧ Box z GBU #[.int .i64 p, .int .i64 q, .int .i64 r, .int .i64 t] 25) := ⟨_, fun _ => Iff.rfl⟩
      have HSC := hide eSc
      have KP : Hid (∀ z z', Sc z → Below z.heap.size z z' → Sc z') := hide fun z z' hz hb => (HSC.out z').2 ⟨((HSC.out z).1 hz).1.trans (hb.mono ((HSC.out z).1 hz).1.size), ((HSC.out z).1 hz).2.1.stays hb, ((HSC.out z).1 hz).2.2.1.stays hb, ((HSC.out z).1 hz).2.2.2.stays hb⟩
      have K1 : Sc z9 := (HSC.out _).2 ⟨BB_13.out, BX_13.out, BY_13.out, BU_13.out⟩
      have K0 : Hid (Sc z9.drew) := hide (KP.out _ _ K1 (Below.refl _ _).drew)
      clear K1
      have hne : Nonempty (InC Sc) := ⟨⟨_, K0.out⟩⟩
      have yBX0 : ∀ s : InC Sc, s.z.cell? ⟨GBX, 0, none⟩ = some (.int .i64 op) := fun s => Lib.cell_of_heap ((HSC.out _).1 s.h).2.1 0
      have yBX1 : ∀ s : InC Sc, s.z.cell? ⟨GBX, 1, none⟩ = some (.int .i64 a) := fun s => Lib.cell_of_heap ((HSC.out _).1 s.h).2.1 1
      have yBX2 : ∀ s : InC Sc, s.z.cell? ⟨GBX, 2, none⟩ = some (.int .i64 b) := fun s => Lib.cell_of_heap ((HSC.out _).1 s.h).2.1 2
      have yBX3 : ∀ s : InC Sc, s.z.cell? ⟨GBX, 3, none⟩ = some (.int .i64 c) := fun s => Lib.cell_of_heap ((HSC.out _).1 s.h).2.1 3
      have yBY0 : ∀ s : InC Sc, s.z.cell? ⟨GBY, 0, none⟩ = some (.int .i64 0) := fun s => Lib.cell_of_heap ((HSC.out _).1 s.h).2.2.1 0
      have yBY1 : ∀ s : InC Sc, s.z.cell? ⟨GBY, 1, none⟩ = some (.int .i64 0) := fun s => Lib.cell_of_heap ((HSC.out _).1 s.h).2.2.1 1
      have yBY2 : ∀ s : InC Sc, s.z.cell? ⟨GBY, 2, none⟩ = some (.int .i64 0) := fun s => Lib.cell_of_heap ((HSC.out _).1 s.h).2.2.1 2
      have yBY3 : ∀ s : InC Sc, s.z.cell? ⟨GBY, 3, none⟩ = some (.int .i64 0) := fun s => Lib.cell_of_heap ((HSC.out _).1 s.h).2.2.1 3
      have yBU0 : ∀ s : InC Sc, s.z.cell? ⟨GBU, 0, none⟩ = some (.int .i64 p) := fun s => Lib.cell_of_heap ((HSC.out _).1 s.h).2.2.2 0
      have yBU1 : ∀ s : InC Sc, s.z.cell? ⟨GBU, 1, none⟩ = some (.int .i64 q) := fun s => Lib.cell_of_heap ((HSC.out _).1 s.h).2.2.2 1
      have yBU2 : ∀ s : InC Sc, s.z.cell? ⟨GBU, 2, none⟩ = some (.int .i64 r) := fun s => Lib.cell_of_heap ((HSC.out _).1 s.h).2.2.2 2
      have yBU3 : ∀ s : InC Sc, s.z.cell? ⟨GBU, 3, none⟩ = some (.int .i64 t) := fun s => Lib.cell_of_heap ((HSC.out _).1 s.h).2.2.2 3
      have CO := fun s : InC Sc => hide (calls_class s (fun w' hb => KP.out _ _ s.h hb) (HIO.out op a b c s.z))
      have CS0 := fun s : InC Sc => hide (calls_class s (fun w' hb => KP.out _ _ s.h hb) ((specInsOk_any op a b c s.z).mono fun _ _ h => ⟨h.1, by rw [h.2]; exact (Below.refl _ _).alloc (Nat.le_refl _) _⟩))
      have CH := fun s : InC Sc => hide (calls_class s (fun w' hb => KP.out _ _ s.h hb) (HIS.out op a b c s.z ((HSC.out _).1 s.h).1))
      have CH0 := fun s : InC Sc => hide (calls_class s (fun w' hb => KP.out _ _ s.h hb) (specShowIns_any op a b c s.z))
      simp only [hok] at CO CS0
      obtain ⟨sh, esh⟩ : ∃ t, showE op a b c = t := ⟨_, rfl⟩
      simp only [esh] at CH CH0
      clear esh eSc HIE HID HIO HIS HC
      have hux : (p = op ∧ q = a ∧ r = b ∧ t = c) ∨ ¬ p = op ∨ (p = op ∧ ¬ q = a) ∨ (p = op ∧ q = a ∧ ¬ r = b) ∨ (p = op ∧ q = a ∧ r = b ∧ ¬ t = c) := by omega
      rcases hux with ⟨rfl, rfl, rfl, rfl⟩ | h | ⟨rfl, h⟩ | ⟨rfl, rfl, h⟩ | ⟨rfl, rfl, rfl, h⟩
      · rw [hok] at hpq
        cases hpq
      · have h9 : (p == op) = false := by simp [h]
        obtain ⟨M, eM⟩ : ∃ M, encI p q r t = M := ⟨_, rfl⟩
        rw [eM]
        clear eM
        go_wp2_with fail
        refine wp_region_class Sc (by kernel_rfl) (by kernel_rfl) K0.out ?_
        repeat (go_big_quiet_step ((first
          | (go_at_call 16; with_reducible exact unhide (CO _))
          | (go_at_call 15; with_reducible exact unhide (CS0 _))
          | (go_at_call 7; with_reducible exact unhide (CH _))
          | (go_at_call 5; with_reducible exact unhide (CH0 _)))))
        refine wpQuiet_nil ?_
        intro s
        have D := hide ((HSC.out _).1 s.h).1
        obtain ⟨z, hz⟩ := s
        dsimp only at D ⊢
        clear yBX0 yBX1 yBX2 yBX3 yBY0 yBY1 yBY2 yBY3 yBU0 yBU1 yBU2 yBU3
        go_wp2
        go_ret
        exact ⟨rfl, D.out⟩
      · have h9 : (q == a) = false := by simp [h]
        obtain ⟨M, eM⟩ : ∃ M, encI p q r t = M := ⟨_, rfl⟩
        rw [eM]
        clear eM
        go_wp2_with fail
        refine wp_region_class Sc (by kernel_rfl) (by kernel_rfl) K0.out ?_
        repeat (go_big_quiet_step ((first
          | (go_at_call 16; with_reducible exact unhide (CO _))
          | (go_at_call 15; with_reducible exact unhide (CS0 _))
          | (go_at_call 7; with_reducible exact unhide (CH _))
          | (go_at_call 5; with_reducible exact unhide (CH0 _)))))
        refine wpQuiet_nil ?_
        intro s
        have D := hide ((HSC.out _).1 s.h).1
        obtain ⟨z, hz⟩ := s
        dsimp only at D ⊢
        clear yBX0 yBX1 yBX2 yBX3 yBY0 yBY1 yBY2 yBY3 yBU0 yBU1 yBU2 yBU3
        go_wp2
        go_ret
        exact ⟨rfl, D.out⟩
      · have h9 : (r == b) = false := by simp [h]
        obtain ⟨M, eM⟩ : ∃ M, encI p q r t = M := ⟨_, rfl⟩
        rw [eM]
        clear eM
        go_wp2_with fail
        refine wp_region_class Sc (by kernel_rfl) (by kernel_rfl) K0.out ?_
        repeat (go_big_quiet_step ((first
          | (go_at_call 16; with_reducible exact unhide (CO _))
          | (go_at_call 15; with_reducible exact unhide (CS0 _))
          | (go_at_call 7; with_reducible exact unhide (CH _))
          | (go_at_call 5; with_reducible exact unhide (CH0 _)))))
        refine wpQuiet_nil ?_
        intro s
        have D := hide ((HSC.out _).1 s.h).1
        obtain ⟨z, hz⟩ := s
        dsimp only at D ⊢
        clear yBX0 yBX1 yBX2 yBX3 yBY0 yBY1 yBY2 yBY3 yBU0 yBU1 yBU2 yBU3
        go_wp2
        go_ret
        exact ⟨rfl, D.out⟩
      · have h9 : (t == c) = false := by simp [h]
        obtain ⟨M, eM⟩ : ∃ M, encI p q r t = M := ⟨_, rfl⟩
        rw [eM]
        clear eM
        go_wp2_with fail
        refine wp_region_class Sc (by kernel_rfl) (by kernel_rfl) K0.out ?_
        repeat (go_big_quiet_step ((first
          | (go_at_call 16; with_reducible exact unhide (CO _))
          | (go_at_call 15; with_reducible exact unhide (CS0 _))
          | (go_at_call 7; with_reducible exact unhide (CH _))
          | (go_at_call 5; with_reducible exact unhide (CH0 _)))))
        refine wpQuiet_nil ?_
        intro s
        have D := hide ((HSC.out _).1 s.h).1
        obtain ⟨z, hz⟩ := s
        dsimp only at D ⊢
        clear yBX0 yBX1 yBX2 yBX3 yBY0 yBY1 yBY2 yBY3 yBU0 yBU1 yBU2 yBU3
        go_wp2
        go_ret
        exact ⟨rfl, D.out⟩
end Go.Proofs.YtpamglakdnegcaaDoor

/-
  Walks: the law's marks on rows that were handed in.
-/
import Derived.Test.YtkoelibclihekaaTurnP
import Derived.Test.YtkoelibclihekaaMarkW
namespace Go.Proofs.Ytkoelibclihekaa
open Go.RowKit

theorem markT_any (k : Int) (w : World) (h0 : 0 < k) (h1 : k ≤ 9000000000000000000) : Calls Try.prog 80 #[.int .i64 k] w fun e w' => ∃ s, e = .returned (.string s) ∧ Below w.heap.size w w' := by
  obtain ⟨n, rfl⟩ : ∃ n : Nat, k = (n : Int) := ⟨k.toNat, by omega⟩
  exact (markText_any n w (by omega) (by omega)).mono fun e w' h => ⟨_, h.1, h.2⟩

set_option maxRecDepth 100000 in
set_option maxHeartbeats 4000000 in
theorem turnI_any {B T n : Nat} (v : Value) (k0 : Int) (w : World) (h : ShR B T 1 fInt n w v) (hn : n ≤ 1048576) (hB : B ≤ w.heap.size) (hk0 : 0 < k0) (hk1 : k0 ≤ 100000000000000000) :
    Calls Try.prog 12 #[v, .int .i64 k0] w fun e w' => ∃ k, e = .returned (.int .i64 k) ∧ k0 ≤ k ∧ k ≤ k0 + (n : Int) * 1 ∧ Turn B T w w' := by
  have H := hide h
  obtain ⟨ao, c, rfl, _⟩ := h
  have HB := hide hB
  go_enter Try.func12, Try.ntmps12
  go_wp2
  go_loopw [5, 1] (fun iv kv wr => TuR B T 1 1 fInt n (.slice ao n c) k0 w iv kv wr) (fun iv _ _ => n - (intOf iv).toNat)
  case atStart => exact ⟨0, k0, Nat.zero_le _, rfl, rfl, Int.le_refl _, by omega, Turn.refl _ _ _, H.out⟩
  case round =>
    clear H
    obtain ⟨j, k, hj, rfl, rfl, hka, hkb, TU0, SH0⟩ := hrel
    by_cases hlt : j < n
    · have hi0 : (0 : Int) ≤ (j : Int) := by omega
      have hi1 : (j : Int) < (n : Int) := by omega
      have hkc : k ≤ 200000000000000000 := by omega
      have hkd : 0 < k := by omega
      obtain ⟨g, rfl⟩ : ∃ g, ao = some ⟨g, 0, none⟩ := by
        obtain ⟨ao2, c2, e, hc⟩ := SH0.out
        injection e with e1 _ _
        obtain ⟨g, e2, _⟩ := hc j hlt
        exact ⟨g, by rw [e1, e2]⟩
      have HLT := hide hlt
      obtain ⟨⟨u1, hc1, hu1⟩, hf1⟩ := SH0.out.look (i := 0) (o := j) hlt (by decide) (by omega)
      clear hu1
      have TZ1 := hide (SH0.out.num (i := 0) (o := j) hlt (by decide) (by omega) rfl (k))
      go_wp2
      go_roundw
      case rel => exact ⟨j + 1, _, by omega, by go_num, by first | rfl | go_num, by omega, by omega, TU0.out.trans TZ1.out, SH0.out.turn TZ1.out (fun i _ => fInt_s i)⟩
      case measure => simp [intOf]; omega
    · have hi1 : ¬ (j : Int) < (n : Int) := by omega
      have e : j = n := by omega
      subst e
      go_wp2
      go_ret
      exact ⟨_, rfl, hka, by omega, TU0.out⟩

set_option maxRecDepth 100000 in
set_option maxHeartbeats 4000000 in
theorem turnT_any {B T n : Nat} (v : Value) (k0 : Int) (w : World) (h : ShR B T 1 fStr n w v) (hn : n ≤ 1048576) (hB : B ≤ w.heap.size) (hk0 : 0 < k0) (hk1 : k0 ≤ 100000000000000000) :
    Calls Try.prog 63 #[v, .int .i64 k0] w fun e w' => ∃ k, e = .returned (.int .i64 k) ∧ k0 ≤ k ∧ k ≤ k0 + (n : Int) * 1 ∧ Turn B T w w' := by
  have H := hide h
  obtain ⟨ao, c, rfl, _⟩ := h
  have HB := hide hB
  have MT := fun k z h0 h1 => hide (markT_any k z h0 h1)
  go_enter Try.func63, Try.ntmps63
  go_wp2
  go_loopw [5, 1] (fun iv kv wr => TuR B T 1 1 fStr n (.slice ao n c) k0 w iv kv wr) (fun iv _ _ => n - (intOf iv).toNat)
  case atStart => exact ⟨0, k0, Nat.zero_le _, rfl, rfl, Int.le_refl _, by omega, Turn.refl _ _ _, H.out⟩
  case round =>
    clear H
    obtain ⟨j, k, hj, rfl, rfl, hka, hkb, TU0, SH0⟩ := hrel
    by_cases hlt : j < n
    · have hi0 : (0 : Int) ≤ (j : Int) := by omega
      have hi1 : (j : Int) < (n : Int) := by omega
      have hkc : k ≤ 200000000000000000 := by omega
      have hkd : 0 < k := by omega
      obtain ⟨g, rfl⟩ : ∃ g, ao = some ⟨g, 0, none⟩ := by
        obtain ⟨ao2, c2, e, hc⟩ := SH0.out
        injection e with e1 _ _
        obtain ⟨g, e2, _⟩ := hc j hlt
        exact ⟨g, by rw [e1, e2]⟩
      have HLT := hide hlt
      go_wp2_with fail
      refine (unhide (MT _ _ (by omega) (by omega))).mono ?_
      rintro e z1 ⟨s1, rfl, hb1⟩
      have TV1 : Hid (Turn B T _ z1) := Turn.below hb1 (Nat.le_trans HB.out TU0.out.bel.size)
      have TUz1 := hide (TU0.out.trans TV1.out)
      have SHz1 := hide (SH0.out.turn TV1.out (fun i _ => fStr_s i))
      clear hb1 TU0 SH0 TV1
      obtain ⟨⟨u1, hc1, hu1⟩, hf1⟩ := SHz1.out.look (i := 0) (o := j) hlt (by decide) (by omega)
      clear hu1
      have TZ1 := hide (SHz1.out.txt (i := 0) (o := j) hlt (by decide) (by omega) rfl (s1))
      go_wp2
      go_roundw
      case rel => exact ⟨j + 1, _, by omega, by go_num, by first | rfl | go_num, by omega, by omega, TUz1.out.trans TZ1.out, SHz1.out.turn TZ1.out (fun i _ => fStr_s i)⟩
      case measure => simp [intOf]; omega
    · have hi1 : ¬ (j : Int) < (n : Int) := by omega
      have e : j = n := by omega
      subst e
      go_wp2
      go_ret
      exact ⟨_, rfl, hka, by omega, TU0.out⟩

set_option maxRecDepth 100000 in
set_option maxHeartbeats 4000000 in
theorem turnE_any {B T n : Nat} (v : Value) (k0 : Int) (w : World) (h : ShR B T 3 fEnt n w v) (hn : n ≤ 1048576) (hB : B ≤ w.heap.size) (hk0 : 0 < k0) (hk1 : k0 ≤ 100000000000000000) :
    Calls Try.prog 81 #[v, .int .i64 k0] w fun e w' => ∃ k, e = .returned (.int .i64 k) ∧ k0 ≤ k ∧ k ≤ k0 + (n : Int) * 3 ∧ Turn B T w w' := by
  have H := hide h
  obtain ⟨ao, c, rfl, _⟩ := h
  have HB := hide hB
  have MT := fun k z h0 h1 => hide (markT_any k z h0 h1)
  go_enter Try.func81, Try.ntmps81
  go_wp2
  go_loopw [5, 1] (fun iv kv wr => TuR B T 3 3 fEnt n (.slice ao n c) k0 w iv kv wr) (fun iv _ _ => n - (intOf iv).toNat)
  case atStart => exact ⟨0, k0, Nat.zero_le _, rfl, rfl, Int.le_refl _, by omega, Turn.refl _ _ _, H.out⟩
  case round =>
    clear H
    obtain ⟨j, k, hj, rfl, rfl, hka, hkb, TU0, SH0⟩ := hrel
    by_cases hlt : j < n
    · have hi0 : (0 : Int) ≤ (j : Int) := by omega
      have hi1 : (j : Int) < (n : Int) := by omega
      have hkc : k ≤ 200000000000000000 := by omega
      have hkd : 0 < k := by omega
      obtain ⟨g, rfl⟩ : ∃ g, ao = some ⟨g, 0, none⟩ := by
        obtain ⟨ao2, c2, e, hc⟩ := SH0.out
        injection e with e1 _ _
        obtain ⟨g, e2, _⟩ := hc j hlt
        exact ⟨g, by rw [e1, e2]⟩
      have HLT := hide hlt
      go_wp2_with fail
      refine (unhide (MT _ _ (by omega) (by omega))).mono ?_
      rintro e z1 ⟨s1, rfl, hb1⟩
      have TV1 : Hid (Turn B T _ z1) := Turn.below hb1 (Nat.le_trans HB.out TU0.out.bel.size)
      have TUz1 := hide (TU0.out.trans TV1.out)
      have SHz1 := hide (SH0.out.turn TV1.out (fun i _ => fEnt_s i))
      clear hb1 TU0 SH0 TV1
      obtain ⟨⟨u1, hc1, hu1⟩, hf1⟩ := SHz1.out.look (i := 0) (o := j * 3) hlt (by decide) (rfl)
      clear hu1
      have TZ1 := hide (SHz1.out.txt (i := 0) (o := j * 3) hlt (by decide) (rfl) rfl (s1))
      go_wp2_with fail
      refine (unhide (MT _ _ (by omega) (by omega))).mono ?_
      rintro e z2 ⟨s2, rfl, hb2⟩
      have TV2 : Hid (Turn B T _ z2) := TZ1.out.trans (Turn.below hb2 (Nat.le_trans HB.out (TUz1.out.trans TZ1.out).bel.size))
      have TUz2 := hide (TUz1.out.trans TV2.out)
      have SHz2 := hide (SHz1.out.turn TV2.out (fun i _ => fEnt_s i))
      clear hb2 TUz1 SHz1 TV2 TZ1 hc1 hf1
      obtain ⟨⟨u2, hc2, hu2⟩, hf2⟩ := SHz2.out.look (i := 1) (o := j * 3 + 1) hlt (by decide) (rfl)
      clear hu2
      obtain ⟨⟨u3, hc3, hu3⟩, hf3⟩ := SHz2.out.look (i := 2) (o := j * 3 + 2) hlt (by decide) (rfl)
      clear hu3
      have TZ2 := hide (SHz2.out.txt (i := 1) (o := j * 3 + 1) hlt (by decide) (rfl) rfl (s2))
      have TZ3 := hide (TZ2.out.trans ((SHz2.out.turn TZ2.out (fun i _ => fEnt_s i)).num (i := 2) (o := j * 3 + 2) hlt (by decide) (rfl) rfl (k + 1 + 1)))
      go_wp2
      go_roundw
      case rel => exact ⟨j + 1, _, by omega, by go_num, by first | rfl | go_num, by omega, by omega, TUz2.out.trans TZ3.out, SHz2.out.turn TZ3.out (fun i _ => fEnt_s i)⟩
      case measure => simp [intOf]; omega
    · have hi1 : ¬ (j : Int) < (n : Int) := by omega
      have e : j = n := by omega
      subst e
      go_wp2
      go_ret
      exact ⟨_, rfl, hka, by omega, TU0.out⟩

set_option maxRecDepth 100000 in
set_option maxHeartbeats 4000000 in
theorem turnN_any {B T n : Nat} (v : Value) (k0 : Int) (w : World) (h : ShR B T 6 (fNod B T) n w v) (hn : n ≤ 1048576) (hB : B ≤ w.heap.size) (hk0 : 0 < k0) (hk1 : k0 ≤ 1000000000000000) :
    Calls Try.prog 60 #[v, .int .i64 k0] w fun e w' => ∃ k, e = .returned (.int .i64 k) ∧ k0 ≤ k ∧ k ≤ k0 + (n : Int) * 1048581 ∧ Turn B T w w' := by
  have H := hide h
  obtain ⟨ao, c, rfl, _⟩ := h
  have HB := hide hB
  have MT := fun k z h0 h1 => hide (markT_any k z h0 h1)
  go_enter Try.func60, Try.ntmps60
  go_wp2
  go_loopw [5, 1] (fun iv kv wr => TuR B T 6 1048581 (fNod B T) n (.slice ao n c) k0 w iv kv wr) (fun iv _ _ => n - (intOf iv).toNat)
  case atStart => exact ⟨0, k0, Nat.zero_le _, rfl, rfl, Int.le_refl _, by omega, Turn.refl _ _ _, H.out⟩
  case round =>
    clear H
    obtain ⟨j, k, hj, rfl, rfl, hka, hkb, TU0, SH0⟩ := hrel
    by_cases hlt : j < n
    · have hi0 : (0 : Int) ≤ (j : Int) := by omega
      have hi1 : (j : Int) < (n : Int) := by omega
      have hkc : k ≤ 10000000000000000 := by omega
      have hkd : 0 < k := by omega
      obtain ⟨g, rfl⟩ : ∃ g, ao = some ⟨g, 0, none⟩ := by
        obtain ⟨ao2, c2, e, hc⟩ := SH0.out
        injection e with e1 _ _
        obtain ⟨g, e2, _⟩ := hc j hlt
        exact ⟨g, by rw [e1, e2]⟩
      have HLT := hide hlt
      obtain ⟨⟨u1, hc1, hu1⟩, hf1⟩ := SH0.out.look (i := 0) (o := j * 6) hlt (by decide) (rfl)
      clear hu1
      obtain ⟨⟨u2, hc2, hu2⟩, hf2⟩ := SH0.out.look (i := 1) (o := j * 6 + 1) hlt (by decide) (rfl)
      clear hu2
      have TZ1 := hide (SH0.out.num (i := 0) (o := j * 6) hlt (by decide) (rfl) rfl (k))
      have TZ2 := hide (TZ1.out.trans ((SH0.out.turn TZ1.out (fun i _ => fNod_s B T i)).num (i := 1) (o := j * 6 + 1) hlt (by decide) (rfl) rfl (k + 1)))
      go_wp2_with fail
      refine (unhide (MT _ _ (by omega) (by omega))).mono ?_
      rintro e z1 ⟨s1, rfl, hb1⟩
      have TV1 : Hid (Turn B T _ z1) := TZ2.out.trans (Turn.below hb1 (Nat.le_trans HB.out (TU0.out.trans TZ2.out).bel.size))
      have TUz1 := hide (TU0.out.trans TV1.out)
      have SHz1 := hide (SH0.out.turn TV1.out (fun i _ => fNod_s B T i))
      clear hb1 TU0 SH0 TV1 TZ1 TZ2 hc1 hf1 hc2 hf2
      obtain ⟨⟨u3, hc3, hu3⟩, hf3⟩ := SHz1.out.look (i := 2) (o := j * 6 + 2) hlt (by decide) (rfl)
      clear hu3
      have TZ3 := hide (SHz1.out.txt (i := 2) (o := j * 6 + 2) hlt (by decide) (rfl) rfl (s1))
      go_wp2_with fail
      refine (unhide (MT _ _ (by omega) (by omega))).mono ?_
      rintro e z2 ⟨s2, rfl, hb2⟩
      have TV2 : Hid (Turn B T _ z2) := TZ3.out.trans (Turn.below hb2 (Nat.le_trans HB.out (TUz1.out.trans TZ3.out).bel.size))
      have TUz2 := hide (TUz1.out.trans TV2.out)
      have SHz2 := hide (SHz1.out.turn TV2.out (fun i _ => fNod_s B T i))
      clear hb2 TUz1 SHz1 TV2 TZ3 hc3 hf3
      obtain ⟨⟨u4, hc4, hu4⟩, hf4⟩ := SHz2.out.look (i := 3) (o := j * 6 + 3) hlt (by decide) (rfl)
      clear hu4
      have TZ4 := hide (SHz2.out.txt (i := 3) (o := j * 6 + 3) hlt (by decide) (rfl) rfl (s2))
      go_wp2_with fail
      refine (unhide (MT _ _ (by omega) (by omega))).mono ?_
      rintro e z3 ⟨s3, rfl, hb3⟩
      have TV3 : Hid (Turn B T _ z3) := TZ4.out.trans (Turn.below hb3 (Nat.le_trans HB.out (TUz2.out.trans TZ4.out).bel.size))
      have TUz3 := hide (TUz2.out.trans TV3.out)
      have SHz3 := hide (SHz2.out.turn TV3.out (fun i _ => fNod_s B T i))
      clear hb3 TUz2 SHz2 TV3 TZ4 hc4 hf4
      obtain ⟨⟨u5, hc5, hu5⟩, hf5⟩ := SHz3.out.look (i := 4) (o := j * 6 + 4) hlt (by decide) (rfl)
      clear hu5
      obtain ⟨⟨u6, hc6, hu6⟩, hf6⟩ := SHz3.out.look (i := 5) (o := j * 6 + 5) hlt (by decide) (rfl)
      obtain ⟨l6, hl6, hs6⟩ : IsR B T 1 fInt _ u6 := hu6
      have RS6 := hide hs6
      obtain ⟨ro6, rc6, rfl, _⟩ := hs6
      clear hf6
      have TZ5 := hide (SHz3.out.txt (i := 4) (o := j * 6 + 4) hlt (by decide) (rfl) rfl (s3))
      go_wp2_with fail
      refine (turnI_any _ _ _ (RS6.out.turn TZ5.out (fun i _ => fInt_s i)) hl6 (Nat.le_trans HB.out (TUz3.out.trans TZ5.out).bel.size) (by omega) (by omega)).mono ?_
      rintro e z4 ⟨k4, rfl, ha4, hb4, ht4⟩
      have TV4 : Hid (Turn B T _ z4) := TZ5.out.trans ht4
      have TUz4 := hide (TUz3.out.trans TV4.out)
      have SHz4 := hide (SHz3.out.turn TV4.out (fun i _ => fNod_s B T i))
      clear ht4 TUz3 SHz3 TV4 RS6 TZ5 hc5 hf5 hc6
      go_wp2
      go_roundw
      case rel => exact ⟨j + 1, _, by omega, by go_num, by first | rfl | go_num, by omega, by omega, TUz4.out, SHz4.out⟩
      case measure => simp [intOf]; omega
    · have hi1 : ¬ (j : Int) < (n : Int) := by omega
      have e : j = n := by omega
      subst e
      go_wp2
      go_ret
      exact ⟨_, rfl, hka, by omega, TU0.out⟩

set_option maxRecDepth 100000 in
set_option maxHeartbeats 4000000 in
theorem turnM_any {B T n : Nat} (v : Value) (k0 : Int) (w : World) (h : ShR B T 4 (fMon B T) n w v) (hn : n ≤ 1048576) (hB : B ≤ w.heap.size) (hk0 : 0 < k0) (hk1 : k0 ≤ 1000000000000000) :
    Calls Try.prog 61 #[v, .int .i64 k0] w fun e w' => ∃ k, e = .returned (.int .i64 k) ∧ k0 ≤ k ∧ k ≤ k0 + (n : Int) * 5242881 ∧ Turn B T w w' := by
  have H := hide h
  obtain ⟨ao, c, rfl, _⟩ := h
  have HB := hide hB
  have MT := fun k z h0 h1 => hide (markT_any k z h0 h1)
  go_enter Try.func61, Try.ntmps61
  go_wp2
  go_loopw [5, 1] (fun iv kv wr => TuR B T 4 5242881 (fMon B T) n (.slice ao n c) k0 w iv kv wr) (fun iv _ _ => n - (intOf iv).toNat)
  case atStart => exact ⟨0, k0, Nat.zero_le _, rfl, rfl, Int.le_refl _, by omega, Turn.refl _ _ _, H.out⟩
  case round =>
    clear H
    obtain ⟨j, k, hj, rfl, rfl, hka, hkb, TU0, SH0⟩ := hrel
    by_cases hlt : j < n
    · have hi0 : (0 : Int) ≤ (j : Int) := by omega
      have hi1 : (j : Int) < (n : Int) := by omega
      have hkc : k ≤ 10000000000000000 := by omega
      have hkd : 0 < k := by omega
      obtain ⟨g, rfl⟩ : ∃ g, ao = some ⟨g, 0, none⟩ := by
        obtain ⟨ao2, c2, e, hc⟩ := SH0.out
        injection e with e1 _ _
        obtain ⟨g, e2, _⟩ := hc j hlt
        exact ⟨g, by rw [e1, e2]⟩
      have HLT := hide hlt
      go_wp2_with fail
      refine (unhide (MT _ _ (by omega) (by omega))).mono ?_
      rintro e z1 ⟨s1, rfl, hb1⟩
      have TV1 : Hid (Turn B T _ z1) := Turn.below hb1 (Nat.le_trans HB.out TU0.out.bel.size)
      have TUz1 := hide (TU0.out.trans TV1.out)
      have SHz1 := hide (SH0.out.turn TV1.out (fun i _ => fMon_s B T i))
      clear hb1 TU0 SH0 TV1
      obtain ⟨⟨u1, hc1, hu1⟩, hf1⟩ := SHz1.out.look (i := 0) (o := j * 4) hlt (by decide) (rfl)
      clear hu1
      obtain ⟨⟨u2, hc2, hu2⟩, hf2⟩ := SHz1.out.look (i := 1) (o := j * 4 + 1) hlt (by decide) (rfl)
      obtain ⟨l2, hl2, hs2⟩ : IsR B T 1 fStr _ u2 := hu2
      have RS2 := hide hs2
      obtain ⟨ro2, rc2, rfl, _⟩ := hs2
      clear hf2
      have TZ1 := hide (SHz1.out.txt (i := 0) (o := j * 4) hlt (by decide) (rfl) rfl (s1))
      go_wp2_with fail
      refine (turnT_any _ _ _ (RS2.out.turn TZ1.out (fun i _ => fStr_s i)) hl2 (Nat.le_trans HB.out (TUz1.out.trans TZ1.out).bel.size) (by omega) (by omega)).mono ?_
      rintro e z2 ⟨k2, rfl, ha2, hb2, ht2⟩
      have TV2 : Hid (Turn B T _ z2) := TZ1.out.trans ht2
      have TUz2 := hide (TUz1.out.trans TV2.out)
      have SHz2 := hide (SHz1.out.turn TV2.out (fun i _ => fMon_s B T i))
      clear ht2 TUz1 SHz1 TV2 RS2 TZ1 hc1 hf1 hc2
      obtain ⟨⟨u3, hc3, hu3⟩, hf3⟩ := SHz2.out.look (i := 2) (o := j * 4 + 2) hlt (by decide) (rfl)
      obtain ⟨l3, hl3, hs3⟩ : IsR B T 1 fStr _ u3 := hu3
      have RS3 := hide hs3
      obtain ⟨ro3, rc3, rfl, _⟩ := hs3
      clear hf3
      go_wp2_with fail
      refine (turnT_any _ _ _ RS3.out hl3 (Nat.le_trans HB.out TUz2.out.bel.size) (by omega) (by omega)).mono ?_
      rintro e z3 ⟨k3, rfl, ha3, hb3, ht3⟩
      have TV3 : Hid (Turn B T _ z3) := ht3
      have TUz3 := hide (TUz2.out.trans TV3.out)
      have SHz3 := hide (SHz2.out.turn TV3.out (fun i _ => fMon_s B T i))
      clear ht3 TUz2 SHz2 TV3 RS3 hc3
      obtain ⟨⟨u4, hc4, hu4⟩, hf4⟩ := SHz3.out.look (i := 3) (o := j * 4 + 3) hlt (by decide) (rfl)
      obtain ⟨l4, hl4, hs4⟩ : IsR B T 3 fEnt _ u4 := hu4
      have RS4 := hide hs4
      obtain ⟨ro4, rc4, rfl, _⟩ := hs4
      clear hf4
      go_wp2_with fail
      refine (turnE_any _ _ _ RS4.out hl4 (Nat.le_trans HB.out TUz3.out.bel.size) (by omega) (by omega)).mono ?_
      rintro e z4 ⟨k4, rfl, ha4, hb4, ht4⟩
      have TV4 : Hid (Turn B T _ z4) := ht4
      have TUz4 := hide (TUz3.out.trans TV4.out)
      have SHz4 := hide (SHz3.out.turn TV4.out (fun i _ => fMon_s B T i))
      clear ht4 TUz3 SHz3 TV4 RS4 hc4
      go_wp2
      go_roundw
      case rel => exact ⟨j + 1, _, by omega, by go_num, by first | rfl | go_num, by omega, by omega, TUz4.out, SHz4.out⟩
      case measure => simp [intOf]; omega
    · have hi1 : ¬ (j : Int) < (n : Int) := by omega
      have e : j = n := by omega
      subst e
      go_wp2
      go_ret
      exact ⟨_, rfl, hka, by omega, TU0.out⟩

set_option maxRecDepth 100000 in
set_option maxHeartbeats 4000000 in
theorem turnP_any {B T n : Nat} (v : Value) (k0 : Int) (w : World) (h : ShR B T 4 (fPro B T) n w v) (hn : n ≤ 1048576) (hB : B ≤ w.heap.size) (hk0 : 0 < k0) (hk1 : k0 ≤ 1000000000000000) :
    Calls Try.prog 62 #[v, .int .i64 k0] w fun e w' => ∃ k, e = .returned (.int .i64 k) ∧ k0 ≤ k ∧ k ≤ k0 + (n : Int) * 2097154 ∧ Turn B T w w' := by
  have H := hide h
  obtain ⟨ao, c, rfl, _⟩ := h
  have HB := hide hB
  have MT := fun k z h0 h1 => hide (markT_any k z h0 h1)
  go_enter Try.func62, Try.ntmps62
  go_wp2
  go_loopw [5, 1] (fun iv kv wr => TuR B T 4 2097154 (fPro B T) n (.slice ao n c) k0 w iv kv wr) (fun iv _ _ => n - (intOf iv).toNat)
  case atStart => exact ⟨0, k0, Nat.zero_le _, rfl, rfl, Int.le_refl _, by omega, Turn.refl _ _ _, H.out⟩
  case round =>
    clear H
    obtain ⟨j, k, hj, rfl, rfl, hka, hkb, TU0, SH0⟩ := hrel
    by_cases hlt : j < n
    · have hi0 : (0 : Int) ≤ (j : Int) := by omega
      have hi1 : (j : Int) < (n : Int) := by omega
      have hkc : k ≤ 10000000000000000 := by omega
      have hkd : 0 < k := by omega
      obtain ⟨g, rfl⟩ : ∃ g, ao = some ⟨g, 0, none⟩ := by
        obtain ⟨ao2, c2, e, hc⟩ := SH0.out
        injection e with e1 _ _
        obtain ⟨g, e2, _⟩ := hc j hlt
        exact ⟨g, by rw [e1, e2]⟩
      have HLT := hide hlt
      go_wp2_with fail
      refine (unhide (MT _ _ (by omega) (by omega))).mono ?_
      rintro e z1 ⟨s1, rfl, hb1⟩
      have TV1 : Hid (Turn B T _ z1) := Turn.below hb1 (Nat.le_trans HB.out TU0.out.bel.size)
      have TUz1 := hide (TU0.out.trans TV1.out)
      have SHz1 := hide (SH0.out.turn TV1.out (fun i _ => fPro_s B T i))
      clear hb1 TU0 SH0 TV1
      obtain ⟨⟨u1, hc1, hu1⟩, hf1⟩ := SHz1.out.look (i := 0) (o := j * 4) hlt (by decide) (rfl)
      clear hu1
      obtain ⟨⟨u2, hc2, hu2⟩, hf2⟩ := SHz1.out.look (i := 1) (o := j * 4 + 1) hlt (by decide) (rfl)
      obtain ⟨l2, hl2, hs2⟩ : IsR B T 1 fStr _ u2 := hu2
      have RS2 := hide hs2
      obtain ⟨ro2, rc2, rfl, _⟩ := hs2
      clear hf2
      have TZ1 := hide (SHz1.out.txt (i := 0) (o := j * 4) hlt (by decide) (rfl) rfl (s1))
      go_wp2_with fail
      refine (turnT_any _ _ _ (RS2.out.turn TZ1.out (fun i _ => fStr_s i)) hl2 (Nat.le_trans HB.out (TUz1.out.trans TZ1.out).bel.size) (by omega) (by omega)).mono ?_
      rintro e z2 ⟨k2, rfl, ha2, hb2, ht2⟩
      have TV2 : Hid (Turn B T _ z2) := TZ1.out.trans ht2
      have TUz2 := hide (TUz1.out.trans TV2.out)
      have SHz2 := hide (SHz1.out.turn TV2.out (fun i _ => fPro_s B T i))
      clear ht2 TUz1 SHz1 TV2 RS2 TZ1 hc1 hf1 hc2
      obtain ⟨⟨u3, hc3, hu3⟩, hf3⟩ := SHz2.out.look (i := 2) (o := j * 4 + 2) hlt (by decide) (rfl)
      obtain ⟨l3, hl3, hs3⟩ : IsR B T 1 fStr _ u3 := hu3
      have RS3 := hide hs3
      obtain ⟨ro3, rc3, rfl, _⟩ := hs3
      clear hf3
      go_wp2_with fail
      refine (turnT_any _ _ _ RS3.out hl3 (Nat.le_trans HB.out TUz2.out.bel.size) (by omega) (by omega)).mono ?_
      rintro e z3 ⟨k3, rfl, ha3, hb3, ht3⟩
      have TV3 : Hid (Turn B T _ z3) := ht3
      have TUz3 := hide (TUz2.out.trans TV3.out)
      have SHz3 := hide (SHz2.out.turn TV3.out (fun i _ => fPro_s B T i))
      clear ht3 TUz2 SHz2 TV3 RS3 hc3
      obtain ⟨⟨u4, hc4, hu4⟩, hf4⟩ := SHz3.out.look (i := 3) (o := j * 4 + 3) hlt (by decide) (rfl)
      clear hu4
      have TZ2 := hide (SHz3.out.num (i := 3) (o := j * 4 + 3) hlt (by decide) (rfl) rfl (k3))
      go_wp2
      go_roundw
      case rel => exact ⟨j + 1, _, by omega, by go_num, by first | rfl | go_num, by omega, by omega, TUz3.out.trans TZ2.out, SHz3.out.turn TZ2.out (fun i _ => fPro_s B T i)⟩
      case measure => simp [intOf]; omega
    · have hi1 : ¬ (j : Int) < (n : Int) := by omega
      have e : j = n := by omega
      subst e
      go_wp2
      go_ret
      exact ⟨_, rfl, hka, by omega, TU0.out⟩

set_option maxRecDepth 100000 in
set_option maxHeartbeats 4000000 in
theorem turnProgram_any {B T n m p : Nat} (nv mv pv : Value) (k0 : Int) (w : World) (hN : ShR B T 6 (fNod B T) n w nv) (hM : ShR B T 4 (fMon B T) m w mv) (hP : ShR B T 4 (fPro B T) p w pv) (hn : n ≤ 1048576) (hm : m ≤ 1048576) (hp : p ≤ 1048576) (hB : B ≤ w.heap.size) (hT : T ≤ w.heap.size) (hk0 : 0 < k0) (hk1 : k0 ≤ 1000000000) :
    Calls Try.prog 33 #[.agg #[nv, mv, pv], .int .i64 k0] w fun e w' => ∃ k, e = .returned (.int .i64 k) ∧ k0 ≤ k ∧ k ≤ 100000000000000 ∧ Turn B T w w' := by
  have hb1 : Below w.heap.size w (w.alloc (.cells #[nv, mv, pv] 40)) := (Below.refl _ _).alloc (Nat.le_refl _) _
  have T1 : Hid (Turn B T w (w.alloc (.cells #[nv, mv, pv] 40))) := Turn.below hb1 hB
  have BX := hide (Box.made w #[nv, mv, pv] 40)
  have N1 := hide (hN.turn T1.out fun i _ => fNod_s B T i)
  have M1 := hide (hM.turn T1.out fun i _ => fMon_s B T i)
  have P1 := hide (hP.turn T1.out fun i _ => fPro_s B T i)
  obtain ⟨o0, c0, rfl, _⟩ := hN
  obtain ⟨o1, c1, rfl, _⟩ := hM
  obtain ⟨o2, c2, rfl, _⟩ := hP
  obtain ⟨W1, hW⟩ : ∃ W1, w.alloc (.cells #[.slice o0 n c0, .slice o1 m c1, .slice o2 p c2] 40) = W1 := ⟨_, rfl⟩
  have HW := hide hW
  have HS1 : Hid (w.heap.size < W1.heap.size) := by rw [← hW]; show _ < _; simp
  rw [hW] at T1 BX N1 M1 P1
  clear hW hb1
  have q0 := Lib.cell_of_heap BX.out 0
  simp at q0
  rw [← HW.out] at q0
  go_enter Try.func33, Try.ntmps33
  go_wp2_with fail
  rw [HW.out]
  refine (turnN_any _ _ _ N1.out hn (by have := HS1.out; omega) (by omega) (by omega)).mono ?_
  rintro e z2 ⟨k2, rfl, ha2, hb2, ht2⟩
  have T2 := hide (T1.out.trans ht2)
  have B2 : Hid (Box z2 w.heap.size #[.slice o0 n c0, .slice o1 m c1, .slice o2 p c2] 40) := (ht2.out _ hT HS1.out).trans BX.out
  have M2 := hide (M1.out.turn ht2 fun i _ => fMon_s B T i)
  have P2 := hide (P1.out.turn ht2 fun i _ => fPro_s B T i)
  have HS2 : Hid (w.heap.size < z2.heap.size) := Nat.lt_of_lt_of_le HS1.out ht2.bel.size
  clear q0 ht2 N1 M1 P1 T1 BX
  have q1 := Lib.cell_of_heap B2.out 1
  simp at q1
  go_wp2_with fail
  refine (turnM_any _ _ _ M2.out hm (by have := HS2.out; omega) (by omega) (by omega)).mono ?_
  rintro e z3 ⟨k3, rfl, ha3, hb3, ht3⟩
  have T3 := hide (T2.out.trans ht3)
  have B3 : Hid (Box z3 w.heap.size #[.slice o0 n c0, .slice o1 m c1, .slice o2 p c2] 40) := (ht3.out _ hT HS2.out).trans B2.out
  have P3 := hide (P2.out.turn ht3 fun i _ => fPro_s B T i)
  have HS3 : Hid (w.heap.size < z3.heap.size) := Nat.lt_of_lt_of_le HS2.out ht3.bel.size
  clear q1 ht3 M2 P2 T2 B2
  have q2 := Lib.cell_of_heap B3.out 2
  simp at q2
  go_wp2_with fail
  refine (turnP_any _ _ _ P3.out hp (by have := HS3.out; omega) (by omega) (by omega)).mono ?_
  rintro e z4 ⟨k4, rfl, ha4, hb4, ht4⟩
  have T4 := hide (T3.out.trans ht4)
  clear ht4
  go_wp2
  go_ret
  exact ⟨_, rfl, by omega, by omega, T4.out⟩
end Go.Proofs.Ytkoelibclihekaa

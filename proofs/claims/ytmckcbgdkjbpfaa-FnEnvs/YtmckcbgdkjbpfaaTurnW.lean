/-
  Walks: the law's marks on rows that were handed in.
-/
import Derived.Test.YtmckcbgdkjbpfaaTurnP
import Derived.Test.YtmckcbgdkjbpfaaMarkW
namespace Go.Proofs.Ytmckcbgdkjbpfaa
open Go.RowKit

theorem markT_any (k : Int) (w : World) (h0 : 0 < k) (h1 : k ≤ 9000000000000000000) : Calls Try.prog 59 #[.int .i64 k] w fun e w' => ∃ s, e = .returned (.string s) ∧ Below w.heap.size w w' := by
  obtain ⟨n, rfl⟩ : ∃ n : Nat, k = (n : Int) := ⟨k.toNat, by omega⟩
  exact (markText_any n w (by omega) (by omega)).mono fun e w' h => ⟨_, h.1, h.2⟩

set_option maxRecDepth 100000 in
set_option maxHeartbeats 4000000 in
theorem turnI_any {B T n : Nat} (v : Value) (k0 : Int) (w : World) (h : ShR B T 1 fInt n w v) (hn : n ≤ 1048576) (hB : B ≤ w.heap.size) (hk0 : 0 < k0) (hk1 : k0 ≤ 100000000000000000) :
    Calls Try.prog 35 #[v, .int .i64 k0] w fun e w' => ∃ k, e = .returned (.int .i64 k) ∧ k0 ≤ k ∧ k ≤ k0 + (n : Int) * 1 ∧ Turn B T w w' := by
  have H := hide h
  obtain ⟨ao, c, rfl, _⟩ := h
  have HB := hide hB
  go_enter Try.func35, Try.ntmps35
  go_wp2
  go_loopw [5, 1] (fun iv kv wr => TuR B T 1 1 fInt n (.slice ao n c) k0 w iv kv wr) (fun iv _ _ => n - (intOf iv).toNat)
  case atStart => exact ⟨0, k0, Nat.zero_le _, rfl, rfl, Int.le_refl _, by omega, Turn.refl _ _ _, H.out⟩
  case round =>
    clear H
    obtain ⟨j, k, hj, rfl, rfl, hka, hkb, TU0, SH0⟩ := hrel
    by_cases hlt : j < n
    · have hi0 : (0 : Int) ≤ (j : Int) := by omega
      have hi1 : (j : Int) < (n : Int) := by omega
      have hkc : k ≤ 200000000000000000 := by omega
      have hkd : 0 < k := by omega
      obtain ⟨g, rfl⟩ : ∃ g, ao = some ⟨g, 0, none⟩ := by
        obtain ⟨ao2, c2, e, hc⟩ := SH0.out
        injection e with e1 _ _
        obtain ⟨g, e2, _⟩ := hc j hlt
        exact ⟨g, by rw [e1, e2]⟩
      have HLT := hide hlt
      obtain ⟨⟨u1, hc1, hu1⟩, hf1⟩ := SH0.out.look (i := 0) (o := j) hlt (by decide) (by omega)
      clear hu1
      have TZ1 := hide (SH0.out.num (i := 0) (o := j) hlt (by decide) (by omega) rfl (k))
      go_wp2
      go_roundw
      case rel => exact ⟨j + 1, _, by omega, by go_num, by first | rfl | go_num, by omega, by omega, TU0.out.trans TZ1.out, SH0.out.turn TZ1.out (fun i _ => fInt_s i)⟩
      case measure => simp [intOf]; omega
    · have hi1 : ¬ (j : Int) < (n : Int) := by omega
      have e : j = n := by omega
      subst e
      go_wp2
      go_ret
      exact ⟨_, rfl, hka, by omega, TU0.out⟩

set_option maxRecDepth 100000 in
set_option maxHeartbeats 4000000 in
theorem turnT_any {B T n : Nat} (v : Value) (k0 : Int) (w : World) (h : ShR B T 1 fStr n w v) (hn : n ≤ 1048576) (hB : B ≤ w.heap.size) (hk0 : 0 < k0) (hk1 : k0 ≤ 100000000000000000) :
    Calls Try.prog 34 #[v, .int .i64 k0] w fun e w' => ∃ k, e = .returned (.int .i64 k) ∧ k0 ≤ k ∧ k ≤ k0 + (n : Int) * 1 ∧ Turn B T w w' := by
  have H := hide h
  obtain ⟨ao, c, rfl, _⟩ := h
  have HB := hide hB
  have MT := fun k z h0 h1 => hide (markT_any k z h0 h1)
  go_enter Try.func34, Try.ntmps34
  go_wp2
  go_loopw [5, 1] (fun iv kv wr => TuR B T 1 1 fStr n (.slice ao n c) k0 w iv kv wr) (fun iv _ _ => n - (intOf iv).toNat)
  case atStart => exact ⟨0, k0, Nat.zero_le _, rfl, rfl, Int.le_refl _, by omega, Turn.refl _ _ _, H.out⟩
  case round =>
    clear H
    obtain ⟨j, k, hj, rfl, rfl, hka, hkb, TU0, SH0⟩ := hrel
    by_cases hlt : j < n
    · have hi0 : (0 : Int) ≤ (j : Int) := by omega
      have hi1 : (j : Int) < (n : Int) := by omega
      have hkc : k ≤ 200000000000000000 := by omega
      have hkd : 0 < k := by omega
      obtain ⟨g, rfl⟩ : ∃ g, ao = some ⟨g, 0, none⟩ := by
        obtain ⟨ao2, c2, e, hc⟩ := SH0.out
        injection e with e1 _ _
        obtain ⟨g, e2, _⟩ := hc j hlt
        exact ⟨g, by rw [e1, e2]⟩
      have HLT := hide hlt
      go_wp2_with fail
      refine (unhide (MT _ _ (by omega) (by omega))).mono ?_
      rintro e z1 ⟨s1, rfl, hb1⟩
      have TV1 : Hid (Turn B T _ z1) := Turn.below hb1 (Nat.le_trans HB.out TU0.out.bel.size)
      have TUz1 := hide (TU0.out.trans TV1.out)
      have SHz1 := hide (SH0.out.turn TV1.out (fun i _ => fStr_s i))
      clear hb1 TU0 SH0 TV1
      obtain ⟨⟨u1, hc1, hu1⟩, hf1⟩ := SHz1.out.look (i := 0) (o := j) hlt (by decide) (by omega)
      clear hu1
      have TZ1 := hide (SHz1.out.txt (i := 0) (o := j) hlt (by decide) (by omega) rfl (s1))
      go_wp2
      go_roundw
      case rel => exact ⟨j + 1, _, by omega, by go_num, by first | rfl | go_num, by omega, by omega, TUz1.out.trans TZ1.out, SHz1.out.turn TZ1.out (fun i _ => fStr_s i)⟩
      case measure => simp [intOf]; omega
    · have hi1 : ¬ (j : Int) < (n : Int) := by omega
      have e : j = n := by omega
      subst e
      go_wp2
      go_ret
      exact ⟨_, rfl, hka, by omega, TU0.out⟩

end Go.Proofs.Ytmckcbgdkjbpfaa

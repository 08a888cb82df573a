/-
  Walks: the law's marks on rows that were handed in.
-/
import Derived.Test.YtoageggcbpjlmaaTurnP
import Derived.Test.YtoageggcbpjlmaaAidRow
namespace Go.Proofs.Ytoageggcbpjlmaa
open Go.RowKit

set_option maxRecDepth 100000 in
set_option maxHeartbeats 4000000 in
theorem turnI_any {B T n : Nat} (v : Value) (k0 : Int) (w : World) (h : ShR B T 1 fInt n w v) (hn : n ≤ 1048576) (hB : B ≤ w.heap.size) (hk0 : 0 < k0) (hk1 : k0 ≤ 100000000000000000) :
    Calls Try.prog 20 #[v, .int .i64 k0] w fun e w' => ∃ k, e = .returned (.int .i64 k) ∧ k0 ≤ k ∧ k ≤ k0 + (n : Int) * 1 ∧ Turn B T w w' := by
  have H := hide h
  obtain ⟨ao, c, rfl, _⟩ := h
  have HB := hide hB
  go_enter Try.func20, Try.ntmps20
  go_wp2
  go_loopw [5, 1] (fun iv kv wr => TuR B T 1 1 fInt n (.slice ao n c) k0 w iv kv wr) (fun iv _ _ => n - (intOf iv).toNat)
  case atStart => exact ⟨0, k0, Nat.zero_le _, rfl, rfl, Int.le_refl _, by omega, Turn.refl _ _ _, H.out⟩
  case round =>
    clear H
    obtain ⟨j, k, hj, rfl, rfl, hka, hkb, TU0, SH0⟩ := hrel
    by_cases hlt : j < n
    · have hi0 : (0 : Int) ≤ (j : Int) := by omega
      have hi1 : (j : Int) < (n : Int) := by omega
      have hkc : k ≤ 200000000000000000 := by omega
      have hkd : 0 < k := by omega
      obtain ⟨g, rfl⟩ : ∃ g, ao = some ⟨g, 0, none⟩ := by
        obtain ⟨ao2, c2, e, hc⟩ := SH0.out
        injection e with e1 _ _
        obtain ⟨g, e2, _⟩ := hc j hlt
        exact ⟨g, by rw [e1, e2]⟩
      have HLT := hide hlt
      obtain ⟨⟨u1, hc1, hu1⟩, hf1⟩ := SH0.out.look (i := 0) (o := j) hlt (by decide) (by omega)
      clear hu1
      have TZ1 := hide (SH0.out.num (i := 0) (o := j) hlt (by decide) (by omega) rfl (k))
      go_wp2
      go_roundw
      case rel => exact ⟨j + 1, _, by omega, by go_num, by first | rfl | go_num, by omega, by omega, TU0.out.trans TZ1.out, SH0.out.turn TZ1.out (fun i _ => fInt_s i)⟩
      case measure => simp [intOf]; omega
    · have hi1 : ¬ (j : Int) < (n : Int) := by omega
      have e : j = n := by omega
      subst e
      go_wp2
      go_ret
      exact ⟨_, rfl, hka, by omega, TU0.out⟩

end Go.Proofs.Ytoageggcbpjlmaa

/-
  Walks: a program that came in, copied, by the laws' own helpers: rows of nodes, entries.
-/
import Derived.Test.YtkoelibclihekaaLawT
namespace Go.Proofs.Ytkoelibclihekaa
open Go.RowKit

theorem Try.infoNode : (Try.prog.info? 131).map (fun i => (i.zero, i.size, i.bytes)) = some (some (.agg #[.int .i64 0, .int .i64 0, .string ⟨#[]⟩, .string ⟨#[]⟩, .string ⟨#[]⟩, .slice none 0 0]), 6, 88) := by kernel_rfl

set_option maxRecDepth 100000 in
set_option maxHeartbeats 2000000 in
theorem toNodeS_any (v : Value) (xs : List Nd) (w : World) (h : NdsAt w v xs) (hlen : xs.length ≤ 1048576) (hin : ∀ x ∈ xs, x.kids.length ≤ 1048576) :
    Calls Try.prog 46 #[v] w fun e w' => ∃ v', e = .returned v' ∧ NdsIn w.heap.size w' v' xs ∧ Below w.heap.size w w' := by
  obtain ⟨i0, hi, hz0, hz1, hz2⟩ := info_parts (Try.infoNode)
  obtain ⟨wm, hmk, hown, hgr⟩ := run_make_full (P := Try.prog) w w.heap.size 36 131 i0 _ 6 Try.underlying36 hi hz0 hz1 .i64 .i64 xs.length (by rw [hz2]; omega) (by unfold maxLen; omega) (Nat.le_refl _)
  have HS : Hid (Filled NodeC 6 131 w xs 0 wm) := Filled.start NodeC xs [.int .i64 0, .int .i64 0, .string ⟨#[]⟩, .string ⟨#[]⟩, .string ⟨#[]⟩, .slice none 0 0] (by decide) hown hgr
  have HC := hide h
  have HI := hide hin
  obtain ⟨ao, c, rfl, _⟩ := h
  clear hown hgr hi hz0 hz1 hz2 hin
  obtain ⟨n, en⟩ : ∃ n, xs.length = n := ⟨_, rfl⟩
  have EN := hide en
  rw [en] at hmk hlen HC ⊢
  clear en
  go_enter Try.func46, Try.ntmps46
  go_wp2
  go_loopw [4] (FillR NodeC 6 131 w xs) (fun iv _ => n - (intOf iv).toNat)
  case atStart => exact ⟨0, Nat.zero_le _, rfl, HS.out⟩
  case round =>
    obtain ⟨k, hk, rfl, HF⟩ := hrel
    rw [EN.out] at hk
    by_cases hlt : k < n
    · have hlt' : (k : Int) < (n : Int) := by omega
      have hi0 : (0 : Int) ≤ (k : Int) := by omega
      have hkx : k < xs.length := by rw [EN.out]; exact hlt
      obtain ⟨a', c', p, kv, e5, hpa, hpb, hnode⟩ := (HC.out.stays HF.out.below).node k hkx
      injection e5 with e6 e7 e8
      subst e6
      have hkl := HI.out _ (List.getElem_mem hkx)
      obtain ⟨d0, d1, d2, d3, d4, d5, hkids⟩ := hnode
      have C := hide (toNode_any xs[k] kv wr hkids hkl)
      have HX : Hid (∀ y wz, y.length = 6 → NodeC (w.heap.size + 1) wz y xs[k] → Filled NodeC 6 131 w xs k wz → Filled NodeC 6 131 w xs (k + 1) (wz.setCells w.heap.size (k * 6) y)) := fun y wz hy hR hf => hf.next hkx hy hR
      have HT : Hid (∀ wz, Filled NodeC 6 131 w xs k wz → ∀ j, j < 6 → (∃ u, wz.cell? ⟨w.heap.size, k * 6 + j, none⟩ = some u) ∧ wz.frozen? ⟨w.heap.size, k * 6 + j, none⟩ = false) := fun wz hf j hj => hf.there hkx j hj
      obtain ⟨ko, kc, rfl, _⟩ := hkids
      obtain ⟨x, ex⟩ : ∃ x, xs[k] = x := ⟨_, rfl⟩
      rw [ex] at d0 d1 d2 d3 d4 d5 C HX
      clear ex e7 e8 hkl
      go_wp2_with (go_at_call 70; refine (unhide C).mono ?_; rintro e w1 ⟨o2, n2, c2, rfl, hv2, hb2⟩; have HF1 := hide (HF.out.stays hb2); have HV : Hid (NodeC (w.heap.size + 1) w1 [.int .i64 x.kind, .int .i64 x.num, .string x.name, .string x.more, .string x.into, .slice o2 n2 c2] x) := Told.mono hv2 HF.out.lt; obtain ⟨⟨u0, y0⟩, z0⟩ := HT.out _ HF1.out 0 (by decide); obtain ⟨⟨u1, y1⟩, z1⟩ := HT.out _ HF1.out 1 (by decide); obtain ⟨⟨u2, y2⟩, z2⟩ := HT.out _ HF1.out 2 (by decide); obtain ⟨⟨u3, y3⟩, z3⟩ := HT.out _ HF1.out 3 (by decide); obtain ⟨⟨u4, y4⟩, z4⟩ := HT.out _ HF1.out 4 (by decide); obtain ⟨⟨u5, y5⟩, z5⟩ := HT.out _ HF1.out 5 (by decide); rw [Nat.add_zero] at y0 z0; clear hb2 hv2)
      have HR := hide (HX.out _ _ rfl HV.out HF1.out)
      go_roundw
      case rel => exact ⟨k + 1, by rw [EN.out]; omega, by go_num, HR.out⟩
      case measure => simp [intOf]; omega
    · have hlt' : ¬ (k : Int) < (n : Int) := by omega
      go_wp2
      go_ret
      exact ⟨_, rfl, by
        have := HF.out.done (by rw [EN.out]; omega)
        rwa [EN.out] at this, HF.out.below⟩
end Go.Proofs.Ytkoelibclihekaa

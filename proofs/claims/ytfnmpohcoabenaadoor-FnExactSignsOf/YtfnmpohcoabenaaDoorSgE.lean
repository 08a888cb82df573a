/-
  Walks: rows of signs held against each other.
-/
import Derived.Test.YtfnmpohcoabenaaDoorSgP
import Derived.Test.YtfnmpohcoabenaaDoorChecked
import Derived.BigQuiet
import Derived.WalkSmall
import Derived.Deep.RegionHeld3
namespace Go.Proofs.YtfnmpohcoabenaaDoor
open Go.RowKit

set_option maxHeartbeats 1000000 in
theorem eqSign_same (x : Sg) (w : World) : Calls Tryd.prog 14 #[x.val, x.val] w fun e w' => e = .returned (.bool true) ∧ Below w.heap.size w w' := by
  go_enter Tryd.func14, Tryd.ntmps14
  go_wp2
  go_ret
  exact ⟨rfl, ((Below.refl _ _).alloc (Nat.le_refl _) _).alloc (by simp) _⟩

set_option maxHeartbeats 1000000 in
theorem eqSignS_same (va vb : Value) (xs : List Sg) (w : World) (hn : xs.length ≤ 1048576) (ha : SgAt w va xs) (hb : SgAt w vb xs) :
    Calls Tryd.prog 6 #[va, vb] w fun e w' => e = .returned (.bool true) ∧ Below w.heap.size w w' := by
  obtain ⟨ao, ca, rfl, HA⟩ := ha
  obtain ⟨bo, cb, rfl, HB⟩ := hb
  have HA := hide HA
  have HB := hide HB
  go_enter Tryd.func6, Tryd.ntmps6
  go_wp2
  go_loopw [5] (fun iv wr => ∃ k : Nat, k ≤ xs.length ∧ iv = .int .i64 k ∧ Below w.heap.size w wr) (fun iv _ => xs.length - (intOf iv).toNat)
  case atStart => exact ⟨0, Nat.zero_le _, rfl, Below.refl _ _⟩
  case round =>
    obtain ⟨k, hk, rfl, hb⟩ := hrel
    by_cases hlt : k < xs.length
    · obtain ⟨a, rfl, ha, hca⟩ := HA.out k hlt
      obtain ⟨b, rfl, hbb, hcb⟩ := HB.out k hlt
      have hca2 := hca.stays hb (by rw [add_block]; exact ha)
      have hcb2 := hcb.stays hb (by rw [add_block]; exact hbb)
      obtain ⟨x, ex⟩ : ∃ x, x = xs[k] := ⟨_, rfl⟩
      rw [← ex] at hca2 hcb2
      obtain ⟨p, hp⟩ : ∃ p, a.add (k * 4) = p := ⟨_, rfl⟩
      obtain ⟨q, hq⟩ : ∃ q, b.add (k * 4) = q := ⟨_, rfl⟩
      rw [hp] at hca2
      rw [hq] at hcb2
      obtain ⟨c0, c1, c2, c3⟩ := hca2.facts
      obtain ⟨d0, d1, d2, d3⟩ := hcb2.facts
      have hi0 : (0 : Int) ≤ (k : Int) := by omega
      have hi1 : (k : Int) < (xs.length : Int) := by omega
      have hsz := hb.size
      have hpb : p.block < wr.heap.size := by rw [← hp, add_block]; omega
      have hqb : q.block < wr.heap.size := by rw [← hq, add_block]; omega
      have HW := hide hb
      clear hca hcb hca2 hcb2 ex hb ha hbb HA HB
      go_wp2
      go_region_held3 (fun w' => w'.cell? p = some (.int .i64 x.kind) ∧ w'.cell? { block := p.block, off := p.off + 1 } = some (.string x.text) ∧ w'.cell? { block := p.block, off := p.off + 2 } = some (.int .i64 x.num) ∧ w'.cell? { block := p.block, off := p.off + 3 } = some (.int .i64 x.place) ∧ w'.cell? q = some (.int .i64 x.kind) ∧ w'.cell? { block := q.block, off := q.off + 1 } = some (.string x.text) ∧ w'.cell? { block := q.block, off := q.off + 2 } = some (.int .i64 x.num) ∧ w'.cell? { block := q.block, off := q.off + 3 } = some (.int .i64 x.place)) (first | go_keep | exact ⟨(hb1.cell (p := p) hpb).trans c0, (hb1.cell (p := { block := p.block, off := p.off + 1 }) hpb).trans c1, (hb1.cell (p := { block := p.block, off := p.off + 2 }) hpb).trans c2, (hb1.cell (p := { block := p.block, off := p.off + 3 }) hpb).trans c3, (hb1.cell (p := q) hqb).trans d0, (hb1.cell (p := { block := q.block, off := q.off + 1 }) hqb).trans d1, (hb1.cell (p := { block := q.block, off := q.off + 2 }) hqb).trans d2, (hb1.cell (p := { block := q.block, off := q.off + 3 }) hqb).trans d3⟩) ((go_at_call 14; refine (eqSign_same x _).mono ?_; rintro e w1 ⟨rfl, hb1⟩))
      all_goals
        have HR : Hid (Below w.heap.size w w1) := HW.out.trans ((Below.drew (Below.refl _ _)).trans (hb1.mono hsz))
        clear hb1
        go_wp2
        go_roundw
        case rel => exact ⟨k + 1, by omega, by go_num, HR.out⟩
        case measure => simp [intOf]; omega
    · go_wp2
      go_ret
      exact ⟨rfl, hb⟩
end Go.Proofs.YtfnmpohcoabenaaDoor

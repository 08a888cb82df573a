/-
  Walks: the law's own helpers: marks, and rows of texts held against each other.
-/
import Derived.Test.YtkoelibclihekaaAidD
import Derived.BigQuiet
import Derived.WalkSmall
import Derived.Deep.RegionHeld3
namespace Go.Proofs.Ytkoelibclihekaa
open Go.RowKit

set_option maxHeartbeats 1000000 in
theorem markText_any (n : Nat) (w : World) (h0 : 0 < n) (h1 : n ≤ 9223372036854775807) :
    Calls Try.prog 80 #[.int .i64 n] w fun e w' => e = .returned (.string (markS n)) ∧ Below w.heap.size w w' := by
  have hb1 : decide ((n : Int) ≤ 0) = false := by simp; omega
  go_enter Try.func80, Try.ntmps80
  go_wp2
  go_loopw [3, 0] (fun sv nv wr => DecRel n (fun m => (m : Int)) w sv nv wr) (fun _ nv _ => (intOf nv).toNat)
  case atStart => exact ⟨n, [], Nat.le_refl _, by simp, rfl, by simp [Hid], Below.refl _ _⟩
  case round =>
    obtain ⟨m, tail, hm, rfl, rfl, HD, hb⟩ := hrel
    have hts := DecRel.short (by omega) HD.out
    obtain ⟨t, ht⟩ : ∃ t, t = strOfNums tail := ⟨_, rfl⟩
    rw [← ht] at hts ⊢
    have HT := hide ht
    clear ht
    have hsz := hb.size
    rcases Nat.eq_zero_or_pos m with hm0 | hm0
    · have HF : Hid ((⟨#[109]⟩ : ByteArray) ++ t = markS n) := by
        show _ = _
        rw [markS, ← strOfNums_cons, HT.out, ← HD.out, hm0, decR_zero, List.nil_append]
        rfl
      have hm1 : (m : Int) ≤ 0 := by omega
      clear hm0
      go_wp2
      go_ret
      exact ⟨by rw [← HF.out]; rfl, hb⟩
    · have hcv := conv_one (48 + (m : Int) % 10) wr
      have hx1 : (strOfNums [48 + (m : Int) % 10]).size ≤ 1 := by rw [strOfNums_size]; simp
      have HE := hide (strOfNums_cons (48 + (m : Int) % 10) tail)
      obtain ⟨x, hx⟩ : ∃ x, x = strOfNums [48 + (m : Int) % 10] := ⟨_, rfl⟩
      rw [← hx] at hcv hx1 HE
      have HX := hide hx
      clear hx
      have hm1 : (0 : Int) < (m : Int) := by omega
      go_wp2
      go_roundw
      case rel =>
        refine ⟨m / 10, ((48 + m % 10 : Nat) : Int) :: tail, by omega, by go_num, ?_, DecRel.step hm0 HD.out, hb.alloc hsz _⟩
        rw [HT.out, HE.out]
        simp
      case measure => simp [intOf]; omega

set_option maxHeartbeats 1000000 in
theorem eqStrings_same (va vb : Value) (n ba bb : Nat) (xs : List ByteArray) (w : World) (hn : n ≤ 1048576) (ha : w.ownsRow ba 9 1 va n (xs.map S)) (hb : w.ownsRow bb 9 1 vb n (xs.map S)) :
    Calls Try.prog 79 #[va, vb] w fun e w' => e = .returned (.bool true) ∧ Below w.heap.size w w' := by
  obtain ⟨hl, ha⟩ := ownsRow_form ha
  obtain ⟨_, hb⟩ := ownsRow_form hb
  rcases Nat.eq_zero_or_pos n with h0 | h0
  · subst h0
    obtain ⟨aa, ca, rfl⟩ : ∃ aa ca, va = .slice aa 0 ca := by
      rcases ha with ⟨rfl, _⟩ | ⟨g, cap, rfl, _⟩
      · exact ⟨_, _, rfl⟩
      · exact ⟨_, _, rfl⟩
    obtain ⟨ab, cb, rfl⟩ : ∃ ab cb, vb = .slice ab 0 cb := by
      rcases hb with ⟨rfl, _⟩ | ⟨g, cap, rfl, _⟩
      · exact ⟨_, _, rfl⟩
      · exact ⟨_, _, rfl⟩
    clear ha hb
    go_enter Try.func79, Try.ntmps79
    go_wp2
    refine wp_loop_rounds 1 ?_
    rw [rounds_succ]
    go_wp2
    go_ret
    exact ⟨rfl, Below.refl _ _⟩
  · rcases ha with ⟨_, h⟩ | ⟨g, cap, rfl, _, hg, hca, _⟩
    · omega
    · rcases hb with ⟨_, h⟩ | ⟨g', cap', rfl, _, hg', hcb, _⟩
      · omega
      · have HA := hide hca
        have HB := hide hcb
        clear hca hcb
        go_enter Try.func79, Try.ntmps79
        go_wp2
        go_loopw [5] (fun iv wr => ∃ (k q : Nat), k ≤ n ∧ iv = .int .i64 k ∧ wr = w.drewN q) (fun iv _ => n - (intOf iv).toNat)
        case atStart => exact ⟨0, 0, Nat.zero_le _, rfl, rfl⟩
        case round =>
          obtain ⟨k, q, hk, rfl, rfl⟩ := hrel
          by_cases hlt : k < n
          · have hc1 := HA.out k hlt
            have hc2 := HB.out k hlt
            have hi0 : (0 : Int) ≤ (k : Int) := by omega
            have hi1 : (k : Int) < (n : Int) := by omega
            obtain ⟨x, ex⟩ : ∃ x, x = xs.getD k ByteArray.empty := ⟨_, rfl⟩
            rw [← ex] at hc1 hc2
            clear ex
            go_wp2
            go_quiet (fail)
            go_wp2
            go_roundw
            case rel => exact ⟨k + 1, _, by omega, by go_num, rfl⟩
            case measure => simp [intOf]; omega
          · go_wp2
            go_ret
            exact ⟨rfl, below_drewN (Below.refl _ _) _⟩

/-- Marking: behind it the row holds the marks. -/
def MkRel (w : World) (base : Nat) (v : Value) (n k0 : Nat) (xs : List ByteArray) (iv kv : Value) (wr : World) : Prop :=
  ∃ j : Nat, j ≤ n ∧ iv = .int .i64 j ∧ kv = .int .i64 ((k0 + j : Nat) : Int) ∧ wr.ownsRow base 9 1 v n ((marked xs k0 j).map S) ∧ Below base w wr

set_option maxHeartbeats 1000000 in
theorem markStrings_any (v : Value) (n base k0 : Nat) (xs : List ByteArray) (w : World) (hn : n ≤ 1048576) (hk0 : 0 < k0) (hk1 : k0 ≤ 1000000000) (_hbase : base ≤ w.heap.size) (ha : w.ownsRow base 9 1 v n (xs.map S)) :
    Calls Try.prog 63 #[v, .int .i64 k0] w fun e w' => e = .returned (.int .i64 ((k0 + n : Nat) : Int)) ∧ w'.ownsRow base 9 1 v n ((marks k0 n).map S) ∧ Below base w w' := by
  obtain ⟨hl, hf⟩ := ownsRow_form ha
  rcases Nat.eq_zero_or_pos n with h0 | h0
  · subst h0
    have HA := hide ha
    have hx : xs = [] := List.length_eq_zero_iff.1 hl
    subst hx
    clear ha
    obtain ⟨aa, ca, rfl⟩ : ∃ aa ca, v = .slice aa 0 ca := by
      rcases hf with ⟨rfl, _⟩ | ⟨g, cap, rfl, _⟩
      · exact ⟨_, _, rfl⟩
      · exact ⟨_, _, rfl⟩
    clear hf
    go_enter Try.func63, Try.ntmps63
    go_wp2
    refine wp_loop_rounds 1 ?_
    rw [rounds_succ]
    go_wp2
    go_ret
    exact ⟨rfl, HA.out, Below.refl _ _⟩
  · rcases hf with ⟨_, h⟩ | ⟨g, cap, rfl, hbg, hg, _, _⟩
    · omega
    · have HA := hide ha
      clear ha
      go_enter Try.func63, Try.ntmps63
      go_wp2
      go_loopw [5, 1] (fun iv kv wr => MkRel w base (.slice (some ⟨g, 0, none⟩) n cap) n k0 xs iv kv wr) (fun iv _ _ => n - (intOf iv).toNat)
      case atStart => exact ⟨0, Nat.zero_le _, rfl, rfl, by rw [marked_zero]; exact HA.out, Below.refl _ _⟩
      case round =>
        obtain ⟨j, hj, rfl, rfl, hown, hb⟩ := hrel
        have hsz := hb.size
        by_cases hlt : j < n
        · have hi0 : (0 : Int) ≤ (j : Int) := by omega
          have hi1 : (j : Int) < (n : Int) := by omega
          have HO := hide hown
          have HB := hide hb
          clear hown hb
          go_wp2_with fail
          have eK : ((k0 : Int) + (j : Int)) = ((k0 + j : Nat) : Int) := by omega
          rw [eK]
          refine (markText_any (k0 + j) _ (by omega) (by omega)).mono ?_
          rintro e w1 ⟨rfl, hb1⟩
          have hown1 := ownsRow_stays HO.out hb1
          have hcell : w1.cell? ⟨g, j, none⟩ = some (.string ((marked xs k0 j).getD j ByteArray.empty)) := by
            rw [hown1.cellAt j (by omega), List.getElem?_map, List.getD_eq_getElem?_getD, List.getElem?_eq_getElem (by rw [marked_len _ _ _ (by omega)]; omega)]
            rfl
          have hfz : w1.frozen? ⟨g, j, none⟩ = false := hown1.frozenAt j
          have hst := hown1.stored j (S (markS (k0 + j)))
          obtain ⟨m, em⟩ : ∃ m, m = markS (k0 + j) := ⟨_, rfl⟩
          have HR : Hid ((w1.setCell ⟨g, j, none⟩ (.string m)).ownsRow base 9 1 (.slice (some ⟨g, 0, none⟩) n cap) n ((marked xs k0 (j + 1)).map S) ∧ Below base w (w1.setCell ⟨g, j, none⟩ (.string m))) := by
            refine ⟨?_, (HB.out.trans (hb1.mono (by omega))).setCell (by exact hbg) _⟩
            rw [← marked_succ xs k0 j (by omega), List.map_set, em]
            exact hst.1
          rw [← em]
          have HC := hide hown1
          clear hown1 hst em eK
          go_wp2
          go_roundw
          case rel => exact ⟨j + 1, by omega, by go_num, by go_num, HR.out.1, HR.out.2⟩
          case measure => simp [intOf]; omega
        · have e : j = n := by omega
          have HE := hide e
          clear e
          have HO := hide hown
          clear hown
          go_wp2
          go_ret
          refine ⟨by rw [← HE.out]; rfl, ?_, hb⟩
          have := HO.out
          rw [HE.out] at this
          rw [← hl, ← marked_all xs k0, hl]
          exact this

end Go.Proofs.Ytkoelibclihekaa

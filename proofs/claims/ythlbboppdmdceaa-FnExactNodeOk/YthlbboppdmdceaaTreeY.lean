/-
  Walks: what kids a node wants, by the specification: blocks, all kinds.
-/
import Derived.Test.YthlbboppdmdceaaTreeX
namespace Go.Proofs.Ythlbboppdmdceaa
open Go.RowKit

def blockQ (x : Int) : Bool := decide (x = 20)
def BlocksR (W1 : World) (l : List Int) (n m : Nat) (iv : Value) (wr : World) : Prop :=
  ∃ i : Nat, n ≤ i ∧ i ≤ m ∧ iv = .int .i64 i ∧ Hid (Below W1.heap.size W1 wr) ∧ Hid (∀ j x, n ≤ j → j < i → l[j]? = some x → blockQ x = true)

theorem NdsAt.node {w : World} {nv : Value} {ns : List Nd} (h : NdsAt w nv ns) (k : Nat) (hk : k < ns.length) :
    ∃ a c p kv, nv = .slice (some a) ns.length c ∧ a.add (k * 6) = p ∧ p.block < w.heap.size ∧ NdCell w p ns[k] kv := by
  obtain ⟨ao, c, rfl, hc⟩ := h
  obtain ⟨a, kv, rfl, ha, hx⟩ := hc k hk
  exact ⟨a, c, a.add (k * 6), kv, rfl, rfl, by rw [block_add]; exact ha, hx⟩

set_option maxHeartbeats 1000000 in
theorem l05Blocks_any (nv mv pv : Value) (ns : List Nd) (k n : Nat) (w : World) (hN : NdsAt w nv ns) (hk : k < ns.length) (hn : n ≤ ns[k].kids.length) (hl : ns.length ≤ 1048576) (hkl : ns[k].kids.length ≤ 1048576) :
    Calls Try.prog 43 #[.agg #[nv, mv, pv], .int .i64 (k : Int), .int .i64 (n : Int)] w fun e w' => e = .returned (.bool (((kinds ns k).drop n).all blockQ)) ∧ Below w.heap.size w w' := by
  have hb1 : Below w.heap.size w (w.alloc (.cells #[nv, mv, pv] 33)) := (Below.refl _ _).alloc (Nat.le_refl _) _
  have HN := hide (hN.stays hb1)
  have HX := hide (Boxed.made w nv mv pv 33)
  have HB := hide hb1
  clear hN hb1
  go_enter Try.func43, Try.ntmps43
  go_wp2
  obtain ⟨W1, hW⟩ : ∃ W1, w.alloc (.cells #[nv, mv, pv] 33) = W1 := ⟨_, rfl⟩
  rw [hW] at HN HX HB ⊢
  clear hW
  have hi0 : (0 : Int) ≤ (k : Int) := by omega
  have hi1 : (k : Int) < (ns.length : Int) := by omega
  obtain ⟨m, hm⟩ : ∃ m, ns[k].kids.length = m := ⟨_, rfl⟩
  have HM := hide hm
  rw [hm] at hn hkl
  go_loopw [7] (BlocksR W1 (kinds ns k) n m) (fun iv _ => m - (intOf iv).toNat)
  case atStart => exact ⟨n, by omega, by omega, rfl, Below.refl _ _, fun j x h1 h2 => absurd h2 (by omega)⟩
  case round =>
    obtain ⟨i, hni, hi, rfl, HB2, HA⟩ := hrel
    obtain ⟨c0, c1, c2, _⟩ := HX.out.stays HB2.out
    have HN2 := hide (HN.out.stays HB2.out)
    obtain ⟨a, c, p, kv, rfl, hpa, hpb, hcell⟩ := HN2.out.node k hk
    have d5 := hcell.c5
    obtain ⟨bo, cb, rfl, _⟩ := hcell.kids
    rw [hm] at d5
    clear hcell hm
    by_cases hlt : i < m
    · have hlt' : (i : Int) < (m : Int) := by omega
      have hik : i < ns[k].kids.length := by rw [HM.out]; exact hlt
      have C1 := fun w (h : NdsAt w (.slice (some a) ns.length c) ns) => hide (l05Kid_any (.slice (some a) ns.length c) mv pv ns k i w h hk hik hl)
      have hx := hide (kinds_at? hk hik)
      obtain ⟨x, ex⟩ : ∃ x, x = kidKind ns k ns[k].kids[i] := ⟨_, rfl⟩
      rw [← ex] at hx
      simp only [← ex] at C1
      clear ex
      by_cases hv : x = 20
      · have HV : Hid (blockQ x = true) := by show _ = _; simp [blockQ, hv]
        go_wp2_with (go_at_call 44; refine (unhide (C1 _ HN2.out)).mono ?_; rintro e w2 ⟨rfl, hb2⟩; have HB3 := hide hb2; clear hb2)
        go_roundw
        case rel => exact ⟨i + 1, by omega, by omega, by go_num, HB2.out.trans (HB3.out.mono HB2.out.size), fun j y h1 hj hy => by
          rcases Nat.lt_succ_iff_lt_or_eq.1 hj with hj | hj
          · exact HA.out j y h1 hj hy
          · subst hj; rw [hx.out] at hy; cases hy; exact HV.out⟩
        case measure => simp [intOf]; omega
      · have HV : Hid (blockQ x = false) := by show _ = _; simp [blockQ, hv]
        go_wp2_with (go_at_call 44; refine (unhide (C1 _ HN2.out)).mono ?_; rintro e w2 ⟨rfl, hb2⟩; have HB3 := hide hb2; clear hb2)
        go_ret
        exact ⟨by rw [all_drop_no hx.out hni HV.out]; rfl, HB.out.trans ((HB2.out.trans (HB3.out.mono HB2.out.size)).mono HB.out.size)⟩
    · have hlt' : ¬ (i : Int) < (m : Int) := by omega
      go_wp2
      go_ret
      exact ⟨by rw [all_drop_yes (fun j x h1 hx => HA.out j x h1 (by have := (List.getElem?_eq_some_iff.1 hx).1; rw [kinds_len hk, HM.out] at this; omega) hx)]; rfl, HB.out.trans (HB2.out.mono HB.out.size)⟩

/-- Are a node's kids what its kind wants? -/
def kidsB (kd : Int) (l : List Int) : Bool :=
  if kd = 1 ∨ kd = 2 ∨ kd = 16 ∨ kd = 17 ∨ kd = 18 ∨ kd = 19 then decide (l.length = 0)
  else if kd = 3 then decide (l.length = 2) && (l.take 2).all valueQ
  else if kd = 4 ∨ kd = 5 ∨ kd = 11 ∨ kd = 14 ∨ kd = 15 then decide (l.length = 1) && (l.take 1).all valueQ
  else if kd = 12 then decide (l.length = 2 ∨ l.length = 3) && (l.take 1).all valueQ && (l.drop 1).all blockQ
  else if kd = 13 then decide (l.length = 2) && (l.take 1).all valueQ && (l.drop 1).all blockQ
  else l.all stmtQ && inZ 1 12 l.length
end Go.Proofs.Ythlbboppdmdceaa

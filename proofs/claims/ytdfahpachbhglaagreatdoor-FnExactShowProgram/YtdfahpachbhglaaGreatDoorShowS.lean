/-
  Showing: what is shown of a right tree is none too long.
-/
import Derived.Test.YtdfahpachbhglaaGreatDoorShowN
import Derived.Test.YtdfahpachbhglaaGreatDoorShowV
namespace Go.Proofs.YtdfahpachbhglaaGreatDoor

theorem tx_size : (tx "(").size = 1 ∧ (tx ")").size = 1 ∧ (tx "not").size = 3 ∧ (tx "-").size = 1 ∧ (tx ":=").size = 2 ∧ (tx "if").size = 2 ∧ (tx "then").size = 4 ∧ (tx "else").size = 4 ∧ (tx "while").size = 5 ∧ (tx "do").size = 2 ∧ (tx "call").size = 4 ∧ (tx ".").size = 1 ∧ (tx "to").size = 2 ∧ (tx "print").size = 5 ∧ (tx "read").size = 4 ∧ (tx "delay").size = 5 ∧ (tx "continue").size = 8 ∧ (tx "begin").size = 5 ∧ (tx ";").size = 1 ∧ (tx "end").size = 3 ∧ (tx "skip").size = 4 := by decide +kernel
theorem nameB_size {s : ByteArray} (h : nameB s = true) : s.size ≤ 8 := by
  simp only [nameB, sizeB, Bool.and_eq_true, decide_eq_true_eq] at h
  exact h.1.2
theorem opSign_size (o : Int) : (opSign o).size ≤ 3 := by
  have h : ∀ x ∈ [tx "", tx "+", tx "-", tx "*", tx "/", tx "%", tx "<", tx "=", tx "and", tx "or"], x.size ≤ 3 := by decide +kernel
  unfold opSign
  rw [List.getD_eq_getElem?_getD]
  cases e : [tx "", tx "+", tx "-", tx "*", tx "/", tx "%", tx "<", tx "=", tx "and", tx "or"][o.toNat]? with
  | none => simp only [Option.getD_none]; decide +kernel
  | some t => exact h t (List.mem_of_getElem? e)
theorem strOfNums_size (l : List Int) : (strOfNums l).size = l.length := by simp [strOfNums, ByteArray.size]
theorem dec_size {n : Int} (h0 : 0 ≤ n) (h1 : n ≤ 1000000) : (strOfNums (decI n)).size ≤ 7 := by
  rw [strOfNums_size]
  unfold decI
  split
  · simp
  · rw [if_neg (by omega)]
    exact decR_len 7 n.natAbs (by omega)
theorem shS_size {ns : List Nd} {dp : Nat → Nat} (hR : RightT ns dp) : ∀ d k, k < ns.length → dp k ≤ d → szS (shS ns d k) ≤ Lb d
  | 0, k, hk, hd => by have := (hR.deep k hk).1; omega
  | d + 1, k, hk, hd => by
    have hnode := hR.node k hk
    have hkid := hR.kid k hk
    have hlen : (kinds ns k).length = (ns.getD k default).kids.length := by rw [kinds, List.length_map]
    have hKO := kids_of hnode hlen
    have hLb := Lb_pos d
    show szS (signsN _ _ _) ≤ 15 * Lb d
    obtain ⟨x, ex⟩ : ∃ x, ns.getD k default = x := ⟨_, rfl⟩
    rw [ex] at hnode hkid hKO ⊢
    have hy : ∀ y ∈ x.kids, szS (shS ns d y.toNat) ≤ Lb d := fun y hy => by
      obtain ⟨a1, a2, a3⟩ := hkid y hy
      exact shS_size hR d y.toNat (by omega) (by omega)
    have hK : ∀ i, i < x.kids.length → szS ((fun i => shS ns d (kidN x i)) i) ≤ Lb d := fun i hi => by
      show szS (shS ns d (kidN x i)) ≤ Lb d
      unfold kidN
      rw [List.getD_eq_getElem?_getD, List.getElem?_eq_getElem hi]
      exact hy _ (List.getElem_mem hi)
    generalize (fun i => shS ns d (kidN x i)) = K at hK ⊢
    have hname : namedQ x.kind = true → x.name.size ≤ 8 := fun hq => by
      simp only [nodeB, Bool.and_eq_true] at hnode
      have := hnode.1.1.2
      rw [if_pos hq] at this
      exact nameB_size this
    have hcall : x.kind = 14 → x.more.size ≤ 8 ∧ (x.into.toList.isEmpty = true ∨ x.into.size ≤ 8) := fun hq => by
      simp only [nodeB, Bool.and_eq_true] at hnode
      have := hnode.1.2
      rw [if_pos hq] at this
      simp only [Bool.and_eq_true, Bool.or_eq_true] at this
      exact ⟨nameB_size this.1, this.2.imp id nameB_size⟩
    have hnum : x.kind = 1 → 0 ≤ x.num ∧ x.num ≤ 1000000 := fun hq => by
      simp only [nodeB, Bool.and_eq_true] at hnode
      have := hnode.2
      rw [if_pos hq] at this
      simpa [inZ] using this
    have nq : ∀ q : Int, (q = 2 ∨ q = 11 ∨ q = 16 ∨ q = 17 ∨ q = 18 ∨ q = 14) → namedQ q = true := fun q hq => by simp only [namedQ, decide_eq_true_eq]; exact hq
    obtain ⟨z1, z2, z3, z4, z5, z6, z7, z8, z9, z10, z11, z12, z13, z14, z15, z16, z17, z18, z19, z20, z21⟩ := tx_size
    unfold signsN
    by_cases e1 : x.kind = 1
    · rw [if_pos e1, szS_cons, szS_nil]
      have := dec_size (hnum e1).1 (hnum e1).2
      omega
    rw [if_neg e1]
    by_cases e2 : x.kind = 2
    · rw [if_pos e2, szS_cons, szS_nil]
      have := hname (nq _ (by omega))
      omega
    rw [if_neg e2]
    by_cases e3 : x.kind = 3
    · have h2 := hKO.1 e3
      have k0 := hK 0 (by omega)
      have k1 := hK 1 (by omega)
      have := opSign_size x.num
      rw [if_pos e3, szS_cons, szS_app, szS_cons, szS_app, szS_cons, szS_nil]
      omega
    rw [if_neg e3]
    by_cases e4 : x.kind = 4
    · have k0 := hK 0 (by have := hKO.2.1 (by omega); omega)
      rw [if_pos e4, szS_cons]
      omega
    rw [if_neg e4]
    by_cases e5 : x.kind = 5
    · have k0 := hK 0 (by have := hKO.2.1 (by omega); omega)
      rw [if_pos e5, szS_cons]
      omega
    rw [if_neg e5]
    by_cases e11 : x.kind = 11
    · have k0 := hK 0 (by have := hKO.2.1 (by omega); omega)
      have := hname (nq _ (by omega))
      rw [if_pos e11, szS_cons, szS_cons]
      omega
    rw [if_neg e11]
    by_cases e12 : x.kind = 12
    · have h2 := hKO.2.2.1 e12
      have k0 := hK 0 (by omega)
      have k1 := hK 1 (by omega)
      rw [if_pos e12, szS_cons, szS_app, szS_cons, szS_app]
      by_cases h3 : 2 < x.kids.length
      · have k2 := hK 2 h3
        rw [if_pos h3, szS_cons]
        omega
      · rw [if_neg h3, szS_nil]
        omega
    rw [if_neg e12]
    by_cases e13 : x.kind = 13
    · have h2 := hKO.2.2.2.1 e13
      have k0 := hK 0 (by omega)
      have k1 := hK 1 (by omega)
      rw [if_pos e13, szS_cons, szS_app, szS_cons]
      omega
    rw [if_neg e13]
    by_cases e14 : x.kind = 14
    · have k0 := hK 0 (by have := hKO.2.1 (by omega); omega)
      have hn := hname (nq _ (by omega))
      obtain ⟨hm, hi⟩ := hcall e14
      rw [if_pos e14, szS_cons, szS_cons, szS_cons, szS_cons, szS_cons, szS_app, szS_cons]
      by_cases h3 : x.into.toList.isEmpty = true
      · rw [if_pos h3, szS_nil]
        omega
      · have h4 : x.into.size ≤ 8 := hi.resolve_left h3
        rw [if_neg h3, szS_cons, szS_cons, szS_nil]
        omega
    rw [if_neg e14]
    by_cases e15 : x.kind = 15
    · have k0 := hK 0 (by have := hKO.2.1 (by omega); omega)
      rw [if_pos e15, szS_cons]
      omega
    rw [if_neg e15]
    by_cases e16 : x.kind = 16
    · have := hname (nq _ (by omega))
      rw [if_pos e16, szS_cons, szS_cons, szS_nil]
      omega
    rw [if_neg e16]
    by_cases e17 : x.kind = 17
    · have := hname (nq _ (by omega))
      rw [if_pos e17, szS_cons, szS_cons, szS_nil]
      omega
    rw [if_neg e17]
    by_cases e18 : x.kind = 18
    · have := hname (nq _ (by omega))
      rw [if_pos e18, szS_cons, szS_cons, szS_nil]
      omega
    rw [if_neg e18]
    by_cases e20 : x.kind = 20
    · have h2 := hKO.2.2.2.2 e20
      rw [if_pos e20, szS_cons, szS_app, szS_cons, szS_nil]
      have hb := between_size (tx ";") (m := Lb d) (x.kids.map fun y => shS ns d y.toNat) (fun l hl => by
        obtain ⟨y, hy', rfl⟩ := List.mem_map.1 hl
        exact hy y hy')
      rw [List.length_map, z19] at hb
      have hb2 : x.kids.length * (Lb d + 1 + 1) ≤ 12 * (Lb d + 1 + 1) := Nat.mul_le_mul_right _ h2.2
      omega
    rw [if_neg e20, szS_cons, szS_nil]
    omega
end Go.Proofs.YtdfahpachbhglaaGreatDoor

namespace Go.Proofs.YtdfahpachbhglaaGreatDoor
open Go.RowKit

theorem shS_joined {ns : List Nd} {dp : Nat → Nat} (hR : RightT ns dp) {d k : Nat} (h10 : d ≤ 10) (hk : k < ns.length) (hd : dp k ≤ d) : (joinS (shS ns d k)).size ≤ 60000000000000 := by
  have h1 := joinS_size (shS ns d k)
  have h2 := shS_size hR d k hk hd
  have h3 := Lb_mono h10
  rw [Lb_ten] at h3
  omega
theorem l07Value_any {ns : List Nd} {dp : Nat → Nat} (hR : RightT ns dp) (hl : ns.length ≤ 1048576) (nv mv pv : Value) : ∀ (d : Nat), d ≤ 10 → ∀ (k : Nat) (w : World), k < ns.length → dp k ≤ d → valueQ (ns.getD k default).kind = true → NdsAt w nv ns →
    Calls Tryz.prog 54 #[.agg #[nv, mv, pv], .int .i64 (k : Int)] w fun e w' => e = .returned (.string (joinS (shS ns d k))) ∧ Below w.heap.size w w'
  | 0, _, k, _, hk, hd, _, _ => by have := (hR.deep k hk).1; omega
  | d + 1, h10, k, w, hk, hd, hv, hN => by
    refine l07Value_step hR d k hk hd (by rw [← getD_at hk]; exact hv) hl nv mv pv (fun j hj hdj => shS_joined hR (by omega) hj hdj) (fun j w hj hdj hvj hNj => l07Value_any hR hl nv mv pv d (by omega) j w hj hdj hvj hNj) w hN
end Go.Proofs.YtdfahpachbhglaaGreatDoor

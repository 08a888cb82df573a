/-
  Showing: what is known of the statements and blocks of a right tree, kind by kind.
-/
import Derived.Test.YtdfahpachbhglaaGreatDoorMatP
namespace Go.Proofs.YtdfahpachbhglaaGreatDoor
open Go.RowKit

/-- What is known of a statement. -/
inductive StF (ns : List Nd) (dp : Nat → Nat) (d : Nat) (x : Nd) (S : List ByteArray) : Prop where
  | set (m : Nat) (e : x.kind = 11) (hn : x.name.size ≤ 8) (ek : x.kids = [(m : Int)]) (hm : KidV ns dp d m) (hs : S = x.name :: tx ":=" :: shS ns d m)
  | if2 (m n : Nat) (e : x.kind = 12) (ek : x.kids = [(m : Int), (n : Int)]) (hm : KidV ns dp d m) (hn : KidB ns dp d n) (hs : S = tx "if" :: (shS ns d m ++ tx "then" :: shS ns d n))
  | if3 (m n q : Nat) (e : x.kind = 12) (ek : x.kids = [(m : Int), (n : Int), (q : Int)]) (hm : KidV ns dp d m) (hn : KidB ns dp d n) (hq : KidB ns dp d q) (hs : S = tx "if" :: (shS ns d m ++ tx "then" :: (shS ns d n ++ tx "else" :: shS ns d q)))
  | while (m n : Nat) (e : x.kind = 13) (ek : x.kids = [(m : Int), (n : Int)]) (hm : KidV ns dp d m) (hn : KidB ns dp d n) (hs : S = tx "while" :: (shS ns d m ++ tx "do" :: shS ns d n))
  | call (m : Nat) (e : x.kind = 14) (h1 : x.name.size ≤ 8) (h2 : x.more.size ≤ 8) (h3 : x.into.size ≤ 8) (ek : x.kids = [(m : Int)]) (hm : KidV ns dp d m) (hs : S = tx "call" :: x.name :: tx "." :: x.more :: tx "(" :: (shS ns d m ++ tx ")" :: if x.into.toList.isEmpty then [] else [tx "to", x.into]))
  | print (m : Nat) (e : x.kind = 15) (ek : x.kids = [(m : Int)]) (hm : KidV ns dp d m) (hs : S = tx "print" :: shS ns d m)
  | read (e : x.kind = 16) (hn : x.name.size ≤ 8) (hs : S = [tx "read", x.name])
  | delay (e : x.kind = 17) (hn : x.name.size ≤ 8) (hs : S = [tx "delay", x.name])
  | cont (e : x.kind = 18) (hn : x.name.size ≤ 8) (hs : S = [tx "continue", x.name])
  | skip (e : x.kind = 19) (hs : S = [tx "skip"])

theorem nf_stmt {ns : List Nd} {dp : Nat → Nat} (hR : RightT ns dp) {d k : Nat} (hk : k < ns.length) (hd : dp k ≤ d + 1) {x : Nd} (ex : ns.getD k default = x) (hv : stmtQ x.kind = true) : StF ns dp d x (shS ns (d + 1) k) := by
  have hnode := hR.node k hk
  have hkid := hR.kid k hk
  have hKO := kids_of hnode (by rw [kinds, List.length_map])
  have hsh : shS ns (d + 1) k = signsN x (fun i => shS ns d (kidN x i)) (x.kids.map fun y => shS ns d y.toNat) := by rw [shS, ex]
  have hkin : kinds ns k = x.kids.map (kidKind ns k) := by rw [kinds, ex]
  rw [ex] at hnode hkid hKO
  have hft := facts_of hnode
  have hkk := kid_kinds hkin hnode (fun y hy => ⟨(hkid y hy).1, (hkid y hy).2.1⟩)
  have hkid2 : ∀ y ∈ x.kids, ∃ m : Nat, y = (m : Int) ∧ m < ns.length ∧ dp m ≤ d := fun y hy => by
    obtain ⟨a1, a2, a3⟩ := hkid y hy
    exact ⟨y.toNat, by omega, by omega, by omega⟩
  have hV : (x.kind = 11 ∨ x.kind = 12 ∨ x.kind = 13 ∨ x.kind = 14 ∨ x.kind = 15) → ∀ m : Nat, x.kids[0]? = some (m : Int) → KidV ns dp d m := fun hq m hm => by
    obtain ⟨m', e, h1, h2⟩ := hkid2 (m : Int) (List.mem_of_getElem? hm)
    have e' : m' = m := by omega
    subst e'
    have := hkk.1 hq 0 (m' : Int) hm rfl
    rw [Int.toNat_natCast] at this
    exact ⟨h1, h2, this⟩
  have hB : (x.kind = 12 ∨ x.kind = 13) → ∀ (i m : Nat), i ≠ 0 → x.kids[i]? = some (m : Int) → KidB ns dp d m := fun hq i m hi hm => by
    obtain ⟨m', e, h1, h2⟩ := hkid2 (m : Int) (List.mem_of_getElem? hm)
    have e' : m' = m := by omega
    subst e'
    have := hkk.2 hq i (m' : Int) hm hi
    rw [Int.toNat_natCast] at this
    exact ⟨h1, h2, this⟩
  have hone : (x.kind = 11 ∨ x.kind = 14 ∨ x.kind = 15) → ∃ m : Nat, x.kids = [(m : Int)] ∧ KidV ns dp d m := fun hq => by
    obtain ⟨y, hy⟩ := one_of (hKO.2.1 (by omega))
    obtain ⟨m, rfl, _⟩ := hkid2 y (by rw [hy]; exact List.mem_cons_self)
    exact ⟨m, hy, hV (by omega) m (by rw [hy]; rfl)⟩
  have htwo : (x.kind = 12 ∨ x.kind = 13) → x.kids.length = 2 → ∃ m n : Nat, x.kids = [(m : Int), (n : Int)] ∧ KidV ns dp d m ∧ KidB ns dp d n := fun hq hl => by
    obtain ⟨y, z, hy⟩ := two_of hl
    obtain ⟨m, rfl, _⟩ := hkid2 y (by rw [hy]; exact List.mem_cons_self)
    obtain ⟨n, rfl, _⟩ := hkid2 z (by rw [hy]; exact List.mem_cons_of_mem _ List.mem_cons_self)
    exact ⟨m, n, hy, hV (by omega) m (by rw [hy]; rfl), hB hq 1 n (by decide) (by rw [hy]; rfl)⟩
  have hkd : x.kind = 11 ∨ x.kind = 12 ∨ x.kind = 13 ∨ x.kind = 14 ∨ x.kind = 15 ∨ x.kind = 16 ∨ x.kind = 17 ∨ x.kind = 18 ∨ x.kind = 19 := by
    simp only [stmtQ, inZ, decide_eq_true_eq] at hv
    omega
  have hsn : ∀ S, signsN x (fun i => shS ns d (kidN x i)) (x.kids.map fun y => shS ns d y.toNat) = S → shS ns (d + 1) k = S := fun S e => hsh.trans e
  rcases hkd with h | h | h | h | h | h | h | h | h
  · obtain ⟨m, hy, hm⟩ := hone (by omega)
    refine .set m h (hft.1 (by rw [h]; decide)) hy hm (hsn _ ?_)
    rw [signsN, if_neg (by omega), if_neg (by omega), if_neg (by omega), if_neg (by omega), if_neg (by omega), if_pos h, kidN, hy]
    rfl
  · rcases hKO.2.2.1 h with hl | hl
    · obtain ⟨m, n, hy, hm, hn⟩ := htwo (by omega) hl
      refine .if2 m n h hy hm hn (hsn _ ?_)
      rw [signsN, if_neg (by omega), if_neg (by omega), if_neg (by omega), if_neg (by omega), if_neg (by omega), if_neg (by omega), if_pos h, kidN, kidN, hy]
      simp
    · obtain ⟨y, z, q, hy⟩ := three_of hl
      obtain ⟨m, rfl, _⟩ := hkid2 y (by rw [hy]; exact List.mem_cons_self)
      obtain ⟨n, rfl, _⟩ := hkid2 z (by rw [hy]; exact List.mem_cons_of_mem _ List.mem_cons_self)
      obtain ⟨p, rfl, _⟩ := hkid2 q (by rw [hy]; exact List.mem_cons_of_mem _ (List.mem_cons_of_mem _ List.mem_cons_self))
      refine .if3 m n p h hy (hV (by omega) m (by rw [hy]; rfl)) (hB (by omega) 1 n (by decide) (by rw [hy]; rfl)) (hB (by omega) 2 p (by decide) (by rw [hy]; rfl)) (hsn _ ?_)
      rw [signsN, if_neg (by omega), if_neg (by omega), if_neg (by omega), if_neg (by omega), if_neg (by omega), if_neg (by omega), if_pos h, kidN, kidN, kidN, hy]
      simp
  · obtain ⟨m, n, hy, hm, hn⟩ := htwo (by omega) (hKO.2.2.2.1 h)
    refine .while m n h hy hm hn (hsn _ ?_)
    rw [signsN, if_neg (by omega), if_neg (by omega), if_neg (by omega), if_neg (by omega), if_neg (by omega), if_neg (by omega), if_neg (by omega), if_pos h, kidN, kidN, hy]
    rfl
  · obtain ⟨m, hy, hm⟩ := hone (by omega)
    have h3 : x.into.size ≤ 8 := by
      rcases (hft.2 h).2 with q | q
      · rw [empty_of q]; decide
      · exact q
    refine .call m h (hft.1 (by rw [h]; decide)) (hft.2 h).1 h3 hy hm (hsn _ ?_)
    rw [signsN, if_neg (by omega), if_neg (by omega), if_neg (by omega), if_neg (by omega), if_neg (by omega), if_neg (by omega), if_neg (by omega), if_neg (by omega), if_pos h, kidN, hy]
    rfl
  · obtain ⟨m, hy, hm⟩ := hone (by omega)
    refine .print m h hy hm (hsn _ ?_)
    rw [signsN, if_neg (by omega), if_neg (by omega), if_neg (by omega), if_neg (by omega), if_neg (by omega), if_neg (by omega), if_neg (by omega), if_neg (by omega), if_neg (by omega), if_pos h, kidN, hy]
    rfl
  · refine .read h (hft.1 (by rw [h]; decide)) (hsn _ ?_)
    rw [signsN, if_neg (by omega), if_neg (by omega), if_neg (by omega), if_neg (by omega), if_neg (by omega), if_neg (by omega), if_neg (by omega), if_neg (by omega), if_neg (by omega), if_neg (by omega), if_pos h]
  · refine .delay h (hft.1 (by rw [h]; decide)) (hsn _ ?_)
    rw [signsN, if_neg (by omega), if_neg (by omega), if_neg (by omega), if_neg (by omega), if_neg (by omega), if_neg (by omega), if_neg (by omega), if_neg (by omega), if_neg (by omega), if_neg (by omega), if_neg (by omega), if_pos h]
  · refine .cont h (hft.1 (by rw [h]; decide)) (hsn _ ?_)
    rw [signsN, if_neg (by omega), if_neg (by omega), if_neg (by omega), if_neg (by omega), if_neg (by omega), if_neg (by omega), if_neg (by omega), if_neg (by omega), if_neg (by omega), if_neg (by omega), if_neg (by omega), if_neg (by omega), if_pos h]
  · refine .skip h (hsn _ ?_)
    rw [signsN, if_neg (by omega), if_neg (by omega), if_neg (by omega), if_neg (by omega), if_neg (by omega), if_neg (by omega), if_neg (by omega), if_neg (by omega), if_neg (by omega), if_neg (by omega), if_neg (by omega), if_neg (by omega), if_neg (by omega), if_neg (by omega)]
/-- What is known of a block. -/
theorem nf_block {ns : List Nd} {dp : Nat → Nat} (hR : RightT ns dp) {d k : Nat} (hk : KidB ns dp (d + 1) k) : (∀ y ∈ (ns.getD k default).kids, ∃ m : Nat, y = (m : Int) ∧ KidS ns dp d m) ∧ (ns.getD k default).kids.length ≤ 12 ∧ shS ns (d + 1) k = tx "begin" :: (between (tx ";") ((ns.getD k default).kids.map fun y => shS ns d y.toNat) ++ [tx "end"]) := by
  have hnode := hR.node k hk.lt
  have hkid := hR.kid k hk.lt
  have hKO := kids_of hnode (by rw [kinds, List.length_map])
  have hst := kid_stmts (x := ns.getD k default) rfl hnode (fun y hy => ⟨(hkid y hy).1, (hkid y hy).2.1⟩) hk.kind
  refine ⟨fun y hy => ?_, (hKO.2.2.2.2 hk.kind).2, ?_⟩
  · obtain ⟨a1, a2, a3⟩ := hkid y hy
    have hd := hk.deep
    have hl := hk.lt
    exact ⟨y.toNat, by omega, by omega, by omega, hst y hy⟩
  · have h := hk.kind
    rw [shS]
    generalize ns.getD k default = x at h
    rw [signsN, if_neg (by omega), if_neg (by omega), if_neg (by omega), if_neg (by omega), if_neg (by omega), if_neg (by omega), if_neg (by omega), if_neg (by omega), if_neg (by omega), if_neg (by omega), if_neg (by omega), if_neg (by omega), if_neg (by omega), if_pos h]
end Go.Proofs.YtdfahpachbhglaaGreatDoor

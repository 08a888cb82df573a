/-
  A right node: what the program asks is what the specification asks.
-/
import Derived.Test.YtdfahpachbhglaaGreatDoorImpK
namespace Go.Proofs.YtdfahpachbhglaaGreatDoor
open Go.RowKit

theorem role_value (kd : Int) : decide (roleOf kd = 1) = valueQ kd := by
  unfold roleOf
  cases h : valueQ kd with
  | true => simp
  | false =>
    simp only [Bool.false_eq_true, if_false]
    split
    · simp
    · split <;> simp
theorem role_stmt (kd : Int) : decide (roleOf kd = 2) = stmtQ kd := by
  unfold roleOf
  cases h : valueQ kd with
  | true =>
    have h2 : stmtQ kd = false := by
      have := inZ_yes.1 h
      rw [stmtQ, inZ_no]
      omega
    simp [h2]
  | false =>
    simp only [Bool.false_eq_true, if_false]
    cases h2 : stmtQ kd with
    | true => simp
    | false => simp; split <;> simp
theorem role_block (kd : Int) : decide (roleOf kd = 3) = blockQ kd := by
  unfold roleOf blockQ
  cases h : valueQ kd with
  | true =>
    have := inZ_yes.1 h
    have h2 : ¬ kd = 20 := by omega
    simp [h2]
  | false =>
    simp only [Bool.false_eq_true, if_false]
    cases h2 : stmtQ kd with
    | true =>
      have := inZ_yes.1 h2
      have h3 : ¬ kd = 20 := by omega
      simp [h3]
    | false =>
      simp only [Bool.false_eq_true, if_false]
      split <;> simp_all
theorem kid_ahead {ns : List Nd} {k : Nat} {x : Int} (h : 0 ≤ x ∧ x < (k : Int)) : kidKind ns k x = (ns.getD x.toNat default).kind := by
  rw [kidKind, if_pos (inZ_yes.2 (by omega))]
theorem kid_not {ns : List Nd} {k : Nat} {x : Int} (h : ¬ (0 ≤ x ∧ x < (k : Int))) : kidKind ns k x = 0 := by
  rw [kidKind, if_neg (by rw [inZ_yes]; omega)]
theorem stand_value {ns : List Nd} {k : Nat} (hk : k < ns.length) {x : Int} (h : 0 ≤ x ∧ x < (k : Int)) : standQ ns 1 x = valueQ (kidKind ns k x) := by
  rw [standQ, inZ_yes.2 (by omega), Bool.true_and, role_value, kid_ahead h]
theorem stand_stmt {ns : List Nd} {k : Nat} (hk : k < ns.length) {x : Int} (h : 0 ≤ x ∧ x < (k : Int)) : standQ ns 2 x = stmtQ (kidKind ns k x) := by
  rw [standQ, inZ_yes.2 (by omega), Bool.true_and, role_stmt, kid_ahead h]
theorem stand_block {ns : List Nd} {k : Nat} (hk : k < ns.length) {x : Int} (h : 0 ≤ x ∧ x < (k : Int)) : standQ ns 3 x = blockQ (kidKind ns k x) := by
  rw [standQ, inZ_yes.2 (by omega), Bool.true_and, role_block, kid_ahead h]
theorem value_zero : valueQ 0 = false := rfl
theorem stmt_zero : stmtQ 0 = false := rfl
theorem block_zero : blockQ 0 = false := rfl
theorem empty_beq (s : ByteArray) : (s.toList == ByteArray.empty.toList) = s.toList.isEmpty := by
  have e : ByteArray.empty.toList = [] := by rw [ByteArray.toList_eq]; rfl
  rw [e]
  cases s.toList <;> rfl
theorem toList_beq (s : ByteArray) : (s.toList == s.toList) = true := by simp
theorem kinds_of {ns : List Nd} {k : Nat} (hk : k < ns.length) {x : Nd} (hx : ns[k] = x) : kinds ns k = x.kids.map (kidKind ns k) := by
  rw [kinds, getD_at hk, hx]
theorem getD_neg {ks : List Int} {i : Nat} (h : ks.length ≤ i) : ks[i]?.getD (-1) = -1 := by
  rw [List.getElem?_eq_none h]; rfl
/-- Ahead: none, one, two. -/
theorem ahead_nil (k : Int) : aheadB [] k = true := by simp [aheadB, AheadP]
theorem ahead_one (a k : Int) : aheadB [a] k = decide (0 ≤ a ∧ a < k) := by simp [aheadB, AheadP]
theorem ahead_two (a b k : Int) : aheadB [a, b] k = (decide (0 ≤ a ∧ a < k) && decide (0 ≤ b ∧ b < k) && decide (a ≠ b)) := by
  rw [Bool.eq_iff_iff]
  simp [aheadB, AheadP, and_assoc]
theorem ahead_three (a b c k : Int) : aheadB [a, b, c] k = (decide (0 ≤ a ∧ a < k) && decide (0 ≤ b ∧ b < k) && decide (0 ≤ c ∧ c < k) && decide ([a, b, c].Nodup)) := by
  rw [Bool.eq_iff_iff]
  simp [aheadB, AheadP, and_assoc]

theorem isEmpty_beq (s : ByteArray) : (s.toList == []) = s.toList.isEmpty := by cases s.toList <;> rfl
theorem pure_skip {ns : List Nd} {k : Nat} (hk : k < ns.length) {nu : Int} {nm mo it : ByteArray} {ks : List Int} (hx : ns[k] = ⟨19, nu, nm, mo, it, ks⟩) :
    progB ⟨19, nu, nm, mo, it, ks⟩ ⟨19, 0, ByteArray.empty, ByteArray.empty, ByteArray.empty, []⟩ k (true) = nodeB ⟨19, nu, nm, mo, it, ks⟩ (kinds ns k) := by
  (
  rw [progB, nodeB, kinds_of hk hx];
  rcases ks with _ | ⟨a, ks⟩;
  (simp [sameB, ahead_nil, kidsB, namedQ, valueQ, stmtQ, inZ, Bool.and_assoc, Bool.and_comm, Bool.and_left_comm]);
  (simp [sameB, kidsB]))
theorem pure_num {ns : List Nd} {k : Nat} (hk : k < ns.length) {nu : Int} {nm mo it : ByteArray} {ks : List Int} (hx : ns[k] = ⟨1, nu, nm, mo, it, ks⟩) :
    progB ⟨1, nu, nm, mo, it, ks⟩ ⟨1, nu, ByteArray.empty, ByteArray.empty, ByteArray.empty, []⟩ k (inZ 0 1000000 nu) = nodeB ⟨1, nu, nm, mo, it, ks⟩ (kinds ns k) := by
  (
  rw [progB, nodeB, kinds_of hk hx];
  rcases ks with _ | ⟨a, ks⟩;
  (simp [sameB, ahead_nil, kidsB, namedQ, valueQ, stmtQ, inZ, Bool.and_assoc, Bool.and_comm]);
  (simp [sameB, kidsB]))
theorem pure_var {ns : List Nd} {k : Nat} (hk : k < ns.length) {nu : Int} {nm mo it : ByteArray} {ks : List Int} (hx : ns[k] = ⟨2, nu, nm, mo, it, ks⟩) :
    progB ⟨2, nu, nm, mo, it, ks⟩ ⟨2, 0, nm, ByteArray.empty, ByteArray.empty, []⟩ k (nameB nm) = nodeB ⟨2, nu, nm, mo, it, ks⟩ (kinds ns k) := by
  (
  rw [progB, nodeB, kinds_of hk hx];
  rcases ks with _ | ⟨a, ks⟩;
  (simp [sameB, ahead_nil, kidsB, namedQ, valueQ, stmtQ, inZ, Bool.and_assoc, Bool.and_comm, Bool.and_left_comm]);
  (simp [sameB, kidsB]))
theorem pure_read {ns : List Nd} {k : Nat} (hk : k < ns.length) {nu : Int} {nm mo it : ByteArray} {ks : List Int} (hx : ns[k] = ⟨16, nu, nm, mo, it, ks⟩) :
    progB ⟨16, nu, nm, mo, it, ks⟩ ⟨16, 0, nm, ByteArray.empty, ByteArray.empty, []⟩ k (nameB nm) = nodeB ⟨16, nu, nm, mo, it, ks⟩ (kinds ns k) := by
  (
  rw [progB, nodeB, kinds_of hk hx];
  rcases ks with _ | ⟨a, ks⟩;
  (simp [sameB, ahead_nil, kidsB, namedQ, valueQ, stmtQ, inZ, Bool.and_assoc, Bool.and_comm, Bool.and_left_comm]);
  (simp [sameB, kidsB]))
theorem pure_delay {ns : List Nd} {k : Nat} (hk : k < ns.length) {nu : Int} {nm mo it : ByteArray} {ks : List Int} (hx : ns[k] = ⟨17, nu, nm, mo, it, ks⟩) :
    progB ⟨17, nu, nm, mo, it, ks⟩ ⟨17, 0, nm, ByteArray.empty, ByteArray.empty, []⟩ k (nameB nm) = nodeB ⟨17, nu, nm, mo, it, ks⟩ (kinds ns k) := by
  (
  rw [progB, nodeB, kinds_of hk hx];
  rcases ks with _ | ⟨a, ks⟩;
  (simp [sameB, ahead_nil, kidsB, namedQ, valueQ, stmtQ, inZ, Bool.and_assoc, Bool.and_comm, Bool.and_left_comm]);
  (simp [sameB, kidsB]))
theorem pure_cont {ns : List Nd} {k : Nat} (hk : k < ns.length) {nu : Int} {nm mo it : ByteArray} {ks : List Int} (hx : ns[k] = ⟨18, nu, nm, mo, it, ks⟩) :
    progB ⟨18, nu, nm, mo, it, ks⟩ ⟨18, 0, nm, ByteArray.empty, ByteArray.empty, []⟩ k (nameB nm) = nodeB ⟨18, nu, nm, mo, it, ks⟩ (kinds ns k) := by
  (
  rw [progB, nodeB, kinds_of hk hx];
  rcases ks with _ | ⟨a, ks⟩;
  (simp [sameB, ahead_nil, kidsB, namedQ, valueQ, stmtQ, inZ, Bool.and_assoc, Bool.and_comm, Bool.and_left_comm]);
  (simp [sameB, kidsB]))
theorem pure_not {ns : List Nd} {k : Nat} (hk : k < ns.length) {nu : Int} {nm mo it : ByteArray} {ks : List Int} (hx : ns[k] = ⟨4, nu, nm, mo, it, ks⟩) :
    progB ⟨4, nu, nm, mo, it, ks⟩ ⟨4, 0, ByteArray.empty, ByteArray.empty, ByteArray.empty, [(ks[0]?.getD (-1))]⟩ k (standQ ns 1 (ks[0]?.getD (-1))) = nodeB ⟨4, nu, nm, mo, it, ks⟩ (kinds ns k) := by
  (
  rw [progB, nodeB, kinds_of hk hx];
  rcases ks with _ | ⟨a, _ | ⟨b, ks⟩⟩;
  (simp [sameB, kidsB]);
  (by_cases ha : 0 ≤ a ∧ a < (k : Int));
  (have e := stand_value hk ha; simp only [List.getElem?_cons_zero, Option.getD_some, List.map_cons, List.map_nil, e, ahead_one, ha];
    (simp [sameB, kidsB, namedQ, show valueQ 4 = true from rfl, Bool.and_assoc, Bool.and_comm, Bool.and_left_comm]));
  (have e := kid_not (ns := ns) ha; simp [sameB, kidsB, ahead_one, e, value_zero, ha]);
  (simp [sameB, kidsB]))
theorem pure_neg {ns : List Nd} {k : Nat} (hk : k < ns.length) {nu : Int} {nm mo it : ByteArray} {ks : List Int} (hx : ns[k] = ⟨5, nu, nm, mo, it, ks⟩) :
    progB ⟨5, nu, nm, mo, it, ks⟩ ⟨5, 0, ByteArray.empty, ByteArray.empty, ByteArray.empty, [(ks[0]?.getD (-1))]⟩ k (standQ ns 1 (ks[0]?.getD (-1))) = nodeB ⟨5, nu, nm, mo, it, ks⟩ (kinds ns k) := by
  (
  rw [progB, nodeB, kinds_of hk hx];
  rcases ks with _ | ⟨a, _ | ⟨b, ks⟩⟩;
  (simp [sameB, kidsB]);
  (by_cases ha : 0 ≤ a ∧ a < (k : Int));
  (have e := stand_value hk ha; simp only [List.getElem?_cons_zero, Option.getD_some, List.map_cons, List.map_nil, e, ahead_one, ha];
    (simp [sameB, kidsB, namedQ, show valueQ 5 = true from rfl, Bool.and_assoc, Bool.and_comm, Bool.and_left_comm]));
  (have e := kid_not (ns := ns) ha; simp [sameB, kidsB, ahead_one, e, value_zero, ha]);
  (simp [sameB, kidsB]))
theorem pure_print {ns : List Nd} {k : Nat} (hk : k < ns.length) {nu : Int} {nm mo it : ByteArray} {ks : List Int} (hx : ns[k] = ⟨15, nu, nm, mo, it, ks⟩) :
    progB ⟨15, nu, nm, mo, it, ks⟩ ⟨15, 0, ByteArray.empty, ByteArray.empty, ByteArray.empty, [(ks[0]?.getD (-1))]⟩ k (standQ ns 1 (ks[0]?.getD (-1))) = nodeB ⟨15, nu, nm, mo, it, ks⟩ (kinds ns k) := by
  (
  rw [progB, nodeB, kinds_of hk hx];
  rcases ks with _ | ⟨a, _ | ⟨b, ks⟩⟩;
  (simp [sameB, kidsB]);
  (by_cases ha : 0 ≤ a ∧ a < (k : Int));
  (have e := stand_value hk ha; simp only [List.getElem?_cons_zero, Option.getD_some, List.map_cons, List.map_nil, e, ahead_one, ha];
    (simp [sameB, kidsB, namedQ, show stmtQ 15 = true from rfl, Bool.and_assoc, Bool.and_comm, Bool.and_left_comm]));
  (have e := kid_not (ns := ns) ha; simp [sameB, kidsB, ahead_one, e, value_zero, ha]);
  (simp [sameB, kidsB]))
theorem pure_set {ns : List Nd} {k : Nat} (hk : k < ns.length) {nu : Int} {nm mo it : ByteArray} {ks : List Int} (hx : ns[k] = ⟨11, nu, nm, mo, it, ks⟩) :
    progB ⟨11, nu, nm, mo, it, ks⟩ ⟨11, 0, nm, ByteArray.empty, ByteArray.empty, [(ks[0]?.getD (-1))]⟩ k (nameB nm && standQ ns 1 (ks[0]?.getD (-1))) = nodeB ⟨11, nu, nm, mo, it, ks⟩ (kinds ns k) := by
  (
  rw [progB, nodeB, kinds_of hk hx];
  rcases ks with _ | ⟨a, _ | ⟨b, ks⟩⟩;
  (simp [sameB, kidsB]);
  (by_cases ha : 0 ≤ a ∧ a < (k : Int));
  (have e := stand_value hk ha; simp only [List.getElem?_cons_zero, Option.getD_some, List.map_cons, List.map_nil, e, ahead_one, ha];
    (simp [sameB, kidsB, namedQ, show stmtQ 11 = true from rfl, Bool.and_assoc, Bool.and_comm, Bool.and_left_comm]));
  (have e := kid_not (ns := ns) ha; simp [sameB, kidsB, ahead_one, e, value_zero, ha]);
  (simp [sameB, kidsB]))
theorem pure_call {ns : List Nd} {k : Nat} (hk : k < ns.length) {nu : Int} {nm mo it : ByteArray} {ks : List Int} (hx : ns[k] = ⟨14, nu, nm, mo, it, ks⟩) :
    progB ⟨14, nu, nm, mo, it, ks⟩ ⟨14, 0, nm, mo, it, [(ks[0]?.getD (-1))]⟩ k (nameB nm && nameB mo && (it.toList.isEmpty || nameB it) && standQ ns 1 (ks[0]?.getD (-1))) = nodeB ⟨14, nu, nm, mo, it, ks⟩ (kinds ns k) := by
  (
  rw [progB, nodeB, kinds_of hk hx];
  rcases ks with _ | ⟨a, _ | ⟨b, ks⟩⟩;
  (simp [sameB, kidsB]);
  (by_cases ha : 0 ≤ a ∧ a < (k : Int));
  (have e := stand_value hk ha; simp only [List.getElem?_cons_zero, Option.getD_some, List.map_cons, List.map_nil, e, ahead_one, ha];
    (simp [sameB, kidsB, namedQ, show stmtQ 14 = true from rfl, Bool.and_assoc, Bool.and_comm, Bool.and_left_comm]));
  (have e := kid_not (ns := ns) ha; simp [sameB, kidsB, ahead_one, e, value_zero, ha]);
  (simp [sameB, kidsB]))
theorem pure_calc {ns : List Nd} {k : Nat} (hk : k < ns.length) {nu : Int} {nm mo it : ByteArray} {ks : List Int} (hx : ns[k] = ⟨3, nu, nm, mo, it, ks⟩) :
    progB ⟨3, nu, nm, mo, it, ks⟩ ⟨3, nu, ByteArray.empty, ByteArray.empty, ByteArray.empty, [(ks[0]?.getD (-1)), (ks[1]?.getD (-1))]⟩ k ((decide (1 ≤ nu) && decide (nu ≤ 9)) && (standQ ns 1 (ks[0]?.getD (-1)) && standQ ns 1 (ks[1]?.getD (-1)))) = nodeB ⟨3, nu, nm, mo, it, ks⟩ (kinds ns k) := by
  (
  rw [progB, nodeB, kinds_of hk hx];
  rcases ks with _ | ⟨a, _ | ⟨b, _ | ⟨c, ks⟩⟩⟩;
  (simp [sameB, kidsB]);
  (simp [sameB, kidsB]);
  (by_cases ha : 0 ≤ a ∧ a < (k : Int));
  (by_cases hb : 0 ≤ b ∧ b < (k : Int));
  (have e := stand_value hk ha; have e2 := stand_value hk hb; simp only [List.getElem?_cons_zero, List.getElem?_cons_succ, Option.getD_some, List.map_cons, List.map_nil, e, e2, ahead_two, ha, hb];
    (simp [sameB, kidsB, namedQ, inZ, show valueQ 3 = true from rfl, Bool.and_assoc, Bool.and_comm, Bool.and_left_comm]));
  (have e := kid_not (ns := ns) hb; simp [sameB, kidsB, ahead_two, e, value_zero, hb]);
  (have e := kid_not (ns := ns) ha; simp [sameB, kidsB, ahead_two, e, value_zero, ha]);
  (simp [sameB, kidsB]))
theorem pure_while {ns : List Nd} {k : Nat} (hk : k < ns.length) {nu : Int} {nm mo it : ByteArray} {ks : List Int} (hx : ns[k] = ⟨13, nu, nm, mo, it, ks⟩) :
    progB ⟨13, nu, nm, mo, it, ks⟩ ⟨13, 0, ByteArray.empty, ByteArray.empty, ByteArray.empty, [(ks[0]?.getD (-1)), (ks[1]?.getD (-1))]⟩ k (standQ ns 1 (ks[0]?.getD (-1)) && standQ ns 3 (ks[1]?.getD (-1))) = nodeB ⟨13, nu, nm, mo, it, ks⟩ (kinds ns k) := by
  (
  rw [progB, nodeB, kinds_of hk hx];
  rcases ks with _ | ⟨a, _ | ⟨b, _ | ⟨c, ks⟩⟩⟩;
  (simp [sameB, kidsB]);
  (simp [sameB, kidsB]);
  (by_cases ha : 0 ≤ a ∧ a < (k : Int));
  (by_cases hb : 0 ≤ b ∧ b < (k : Int));
  (have e := stand_value hk ha; have e2 := stand_block hk hb; simp only [List.getElem?_cons_zero, List.getElem?_cons_succ, Option.getD_some, List.map_cons, List.map_nil, e, e2, ahead_two, ha, hb];
    (simp [sameB, kidsB, namedQ, show stmtQ 13 = true from rfl, Bool.and_assoc, Bool.and_comm, Bool.and_left_comm]));
  (have e := kid_not (ns := ns) hb; simp [sameB, kidsB, ahead_two, e, block_zero, hb]);
  (have e := kid_not (ns := ns) ha; simp [sameB, kidsB, ahead_two, e, value_zero, ha]);
  (simp [sameB, kidsB]))

theorem pure_if {ns : List Nd} {k : Nat} (hk : k < ns.length) {nu : Int} {nm mo it : ByteArray} {ks : List Int} (hx : ns[k] = ⟨12, nu, nm, mo, it, ks⟩) :
    progB ⟨12, nu, nm, mo, it, ks⟩ ⟨12, 0, ByteArray.empty, ByteArray.empty, ByteArray.empty, ifKids (ks[0]?.getD (-1)) (ks[1]?.getD (-1)) (ks[2]?.getD (-1))⟩ k (standQ ns 1 (ks[0]?.getD (-1)) && standQ ns 3 (ks[1]?.getD (-1)) && (decide ((ks[2]?.getD (-1)) = -1) || standQ ns 3 (ks[2]?.getD (-1)))) = nodeB ⟨12, nu, nm, mo, it, ks⟩ (kinds ns k) := by
  rw [progB, nodeB, kinds_of hk hx]
  rcases ks with _ | ⟨a, _ | ⟨b, _ | ⟨c, _ | ⟨d, ks⟩⟩⟩⟩
  · simp [sameB, kidsB, ifKids]
  · simp [sameB, kidsB, ifKids]
  · by_cases ha : 0 ≤ a ∧ a < (k : Int)
    · by_cases hb : 0 ≤ b ∧ b < (k : Int)
      · have e := stand_value hk ha
        have e2 := stand_block hk hb
        have e3 : ifKids a b (-1) = [a, b] := rfl
        have e4 : ([a, b] : List Int)[2]?.getD (-1) = -1 := rfl
        simp only [List.getElem?_cons_zero, List.getElem?_cons_succ, Option.getD_some, List.map_cons, List.map_nil, e, e2, ahead_two, ha, hb]
        simp [sameB, kidsB, namedQ, e3, show stmtQ 12 = true from rfl, Bool.and_assoc, Bool.and_comm, Bool.and_left_comm]
      · have e := kid_not (ns := ns) hb
        simp [sameB, kidsB, ahead_two, e, block_zero, hb]
    · have e := kid_not (ns := ns) ha
      simp [sameB, kidsB, ahead_two, e, value_zero, ha]
  · by_cases ha : 0 ≤ a ∧ a < (k : Int)
    · by_cases hb : 0 ≤ b ∧ b < (k : Int)
      · by_cases hc : 0 ≤ c ∧ c < (k : Int)
        · have e := stand_value hk ha
          have e2 := stand_block hk hb
          have e3 := stand_block hk hc
          have hc1 : ¬ c = -1 := by omega
          have e4 : ifKids a b c = [a, b, c] := if_neg hc1
          simp only [List.getElem?_cons_zero, List.getElem?_cons_succ, Option.getD_some, List.map_cons, List.map_nil, e, e2, e3, e4, ahead_three, ha, hb, hc]
          simp [sameB, kidsB, namedQ, hc1, show stmtQ 12 = true from rfl, Bool.and_assoc, Bool.and_comm, Bool.and_left_comm]
        · have e := kid_not (ns := ns) hc
          simp [sameB, kidsB, ahead_three, e, block_zero, hc]
      · have e := kid_not (ns := ns) hb
        simp [sameB, kidsB, ahead_three, e, block_zero, hb]
    · have e := kid_not (ns := ns) ha
      simp [sameB, kidsB, ahead_three, e, value_zero, ha]
  · have e : ∀ x y z : Int, ¬ a :: b :: c :: d :: ks = ifKids x y z := fun x y z => by
      unfold ifKids
      split <;> simp
    simp [sameB, kidsB, e]

theorem pure_block {ns : List Nd} {k : Nat} (hk : k < ns.length) {nu : Int} {nm mo it : ByteArray} {ks : List Int} (hx : ns[k] = ⟨20, nu, nm, mo, it, ks⟩) :
    progB ⟨20, nu, nm, mo, it, ks⟩ ⟨20, 0, ByteArray.empty, ByteArray.empty, ByteArray.empty, ks⟩ k (decide (0 < ks.length) && ks.all (standQ ns 2)) = nodeB ⟨20, nu, nm, mo, it, ks⟩ (kinds ns k) := by
  rw [progB, nodeB, kinds_of hk hx]
  have e1 : kidsB 20 (ks.map (kidKind ns k)) = ((ks.map (kidKind ns k)).all stmtQ && inZ 1 12 ks.length) := by
    simp [kidsB]
  by_cases hall : ∀ x ∈ ks, 0 ≤ x ∧ x < (k : Int)
  · have e2 : ks.all (standQ ns 2) = (ks.map (kidKind ns k)).all stmtQ := by
      rw [List.all_map, Bool.eq_iff_iff, List.all_eq_true, List.all_eq_true]
      exact ⟨fun h x hx => by rw [Function.comp, ← stand_stmt hk (hall x hx)]; exact h x hx, fun h x hx => by rw [stand_stmt hk (hall x hx)]; exact h x hx⟩
    have e3 : aheadB ks k = (decide (ks.length ≤ 12) && decide ks.Nodup) := by
      rw [Bool.eq_iff_iff, aheadB, decide_eq_true_iff, Bool.and_eq_true, decide_eq_true_iff, decide_eq_true_iff]
      exact ⟨fun h => ⟨h.1, h.2.2⟩, fun h => ⟨h.1, hall, h.2⟩⟩
    have e4 : inZ 1 12 ks.length = (decide (0 < ks.length) && decide (ks.length ≤ 12)) := by
      rw [Bool.eq_iff_iff, inZ_yes]
      simp only [Bool.and_eq_true, decide_eq_true_eq]
      omega
    rw [e1, e2, e3, e4]
    simp [sameB, namedQ, Bool.and_assoc, Bool.and_comm, Bool.and_left_comm]
  · have e3 : aheadB ks k = false := by
      rw [aheadB, decide_eq_false_iff_not]
      exact fun h => hall h.2.1
    have e2 : (ks.map (kidKind ns k)).all stmtQ = false := by
      rw [Bool.eq_false_iff]
      intro h
      rw [List.all_map, List.all_eq_true] at h
      refine hall fun x hx => Classical.byContradiction fun hn => ?_
      have := h x hx
      rw [Function.comp, kid_not hn] at this
      exact absurd this (by decide)
    rw [e1, e2, e3]
    simp
end Go.Proofs.YtdfahpachbhglaaGreatDoor

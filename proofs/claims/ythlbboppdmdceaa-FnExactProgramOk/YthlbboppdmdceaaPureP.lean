/-
  A right program: what the program asks is what the specification asks.
-/
import Derived.Test.YthlbboppdmdceaaImpU
import Derived.Test.YthlbboppdmdceaaPureN
namespace Go.Proofs.Ythlbboppdmdceaa
open Go.RowKit

theorem body_stand (ns : List Nd) (b : Int) : bodyQ ns b = standQ ns 3 b := by
  rw [bodyQ, standQ, role_block]
  rfl
theorem all_flat {α β : Type} (f : α → List β) (q : β → Bool) : ∀ (xs : List α), (xs.flatMap f).all q = xs.all (fun x => (f x).all q)
  | [] => rfl
  | x :: xs => by rw [List.flatMap_cons, List.all_append, List.all_cons, all_flat f q xs]
theorem all_and {α : Type} (p q : α → Bool) : ∀ (xs : List α), xs.all (fun x => p x && q x) = (xs.all p && xs.all q)
  | [] => rfl
  | x :: xs => by
    rw [List.all_cons, List.all_cons, List.all_cons, all_and p q xs]
    cases p x <;> cases q x <;> cases xs.all p <;> rfl
theorem all_eq {α : Type} {p q : α → Bool} (h : ∀ x, p x = q x) (xs : List α) : xs.all p = xs.all q := by
  have : p = q := funext h
  rw [this]
theorem namesB_eq (xs : List ByteArray) (k : Nat) : namesB xs (k : Int) = (xs.all nameB && decide (xs.length ≤ k)) := by
  rw [namesB]
  congr 1
  rw [Bool.eq_iff_iff, decide_eq_true_iff, decide_eq_true_iff]
  omega
theorem monB_eq (x : Mo) : monB x = (fitM x && (monNames x).all nameB) := by
  have h1 := namesB_eq x.vars 3
  have h2 := namesB_eq x.queues 2
  have h3 : inZ 1 3 (x.ents.length : Int) = (decide (1 ≤ x.ents.length) && decide (x.ents.length ≤ 3)) := by
    rw [Bool.eq_iff_iff, inZ_yes, Bool.and_eq_true, decide_eq_true_iff, decide_eq_true_iff]
    omega
  have h4 : (x.ents.flatMap entNames).all nameB = x.ents.all entB := by
    rw [all_flat]
    exact all_eq (fun e => by simp [entNames, entB]) _
  have h5 : (monNames x).all nameB = (nameB x.name && x.vars.all nameB && x.queues.all nameB && x.ents.all entB) := by
    rw [monNames, List.all_append, List.all_append, List.all_append, h4]
    simp
  rw [monB, fitM, h5, h3]
  have h1' : namesB x.vars 3 = (x.vars.all nameB && decide (x.vars.length ≤ 3)) := h1
  have h2' : namesB x.queues 2 = (x.queues.all nameB && decide (x.queues.length ≤ 2)) := h2
  rw [h1', h2']
  cases nameB x.name <;> cases x.vars.all nameB <;> cases x.queues.all nameB <;> cases x.ents.all entB <;> cases decide (x.vars.length ≤ 3) <;> cases decide (x.queues.length ≤ 2) <;> cases decide (1 ≤ x.ents.length) <;> cases decide (x.ents.length ≤ 3) <;> rfl
theorem procB_eq (x : Pr) : procB x = (fitP x && (proNames x).all nameB) := by
  have h1' : namesB x.uses 3 = (x.uses.all nameB && decide (x.uses.length ≤ 3)) := namesB_eq x.uses 3
  have h2' : namesB x.vars 3 = (x.vars.all nameB && decide (x.vars.length ≤ 3)) := namesB_eq x.vars 3
  have h5 : (proNames x).all nameB = (nameB x.name && x.uses.all nameB && x.vars.all nameB) := by
    rw [proNames, List.all_append, List.all_append]
    simp
  rw [procB, fitP, h5, h1', h2']
  cases nameB x.name <;> cases x.uses.all nameB <;> cases x.vars.all nameB <;> cases decide (x.uses.length ≤ 3) <;> cases decide (x.vars.length ≤ 3) <;> rfl
theorem lists_eq (n : Nat) (ms : List Mo) (ps : List Pr) : (decide (n ≤ 160) && listsB ms ps) = (fitsB n ms ps && (namesL ms ps).all nameB) := by
  have h1 : ms.all monB = (ms.all fitM && (ms.flatMap monNames).all nameB) := by
    rw [all_flat, ← all_and]
    exact all_eq monB_eq ms
  have h2 : ps.all procB = (ps.all fitP && (ps.flatMap proNames).all nameB) := by
    rw [all_flat, ← all_and]
    exact all_eq procB_eq ps
  have h3 : inZ 1 4 (ps.length : Int) = (decide (1 ≤ ps.length) && decide (ps.length ≤ 4)) := by
    rw [Bool.eq_iff_iff, inZ_yes, Bool.and_eq_true, decide_eq_true_iff, decide_eq_true_iff]
    omega
  have h4 : decide ((ms.length : Int) ≤ 3) = decide (ms.length ≤ 3) := by
    rw [Bool.eq_iff_iff, decide_eq_true_iff, decide_eq_true_iff]
    omega
  rw [listsB, fitsB, namesL, List.all_append, h1, h2, h3, h4]
  cases decide (n ≤ 160) <;> cases decide (ms.length ≤ 3) <;> cases decide (1 ≤ ps.length) <;> cases decide (ps.length ≤ 4) <;> cases ms.all fitM <;> cases ps.all fitP <;> cases (ms.flatMap monNames).all nameB <;> cases (ps.flatMap proNames).all nameB <;> rfl
theorem tree_eq {ns : List Nd} (hn : 0 < ns.length) : (deepsTo ns ns.length).all deepQ = treeB ns := by
  have hlast : (deepsTo ns ns.length).getD (ns.length - 1) 0 = (deepsTo ns (ns.length - 1 + 1)).getD (ns.length - 1) 0 := by rw [Nat.sub_add_cancel hn]
  rw [Bool.eq_iff_iff, treeB, Bool.and_eq_true, decide_eq_true_iff]
  constructor
  · intro h
    refine ⟨List.all_eq_true.2 fun k hk => ?_, ?_⟩
    · rw [List.mem_range] at hk
      rw [nodeAt_in hk]
      exact deep_right h hk
    · have hk : ns.length - 1 < (deepsTo ns ns.length).length := by rw [deepsTo_len]; omega
      have h1 := List.all_eq_true.1 h _ (List.getElem_mem hk)
      have e : (deepsTo ns ns.length).getD (ns.length - 1) 0 = (deepsTo ns ns.length)[ns.length - 1] := by
        simp [List.getD_eq_getElem?_getD, List.getElem?_eq_getElem hk]
      rw [e]
      have := inZ_yes.1 h1
      omega
  · intro ⟨_, h2⟩
    rw [List.all_eq_true]
    intro d hd
    obtain ⟨i, hi, rfl⟩ := List.getElem_of_mem hd
    have hi2 : i < ns.length := by rw [deepsTo_len] at hi; exact hi
    have e : (deepsTo ns ns.length).getD i 0 = (deepsTo ns ns.length)[i] := by
      simp [List.getD_eq_getElem?_getD, List.getElem?_eq_getElem hi]
    have hb := deepsTo_in ns ns.length i
    rw [e] at hb
    refine inZ_yes.2 ⟨?_, hb.2⟩
    rcases Int.lt_or_le 0 (deepsTo ns ns.length)[i] with h | h
    · omega
    · have hz : (deepsTo ns (i + 1)).getD i 0 = 0 := by
        have e1 := deepsTo_at ns ns.length hi2
        have e2 := deepsTo_at ns (i + 1) (Nat.lt_succ_self i)
        rw [e2, ← e1, e]
        omega
      have := deep_zero hz (ns.length - 1) (by omega)
      rw [hlast, this] at h2
      omega
theorem prog_eq (x : Pg) : specProgB x = implProgB x := by
  have hb : (bodiesL x.mons x.pros).all (bodyQ x.nodes) = (bodiesL x.mons x.pros).all (standQ x.nodes 3) := all_eq (body_stand x.nodes) _
  rw [specProgB, implProgB, lists_eq, hb]
  rcases Nat.eq_zero_or_pos x.nodes.length with h0 | hpos
  · have ht : treeB x.nodes = false := by
      rw [treeB, h0]
      simp [deepsTo]
    cases hf : fitsB x.nodes.length x.mons x.pros with
    | false => simp
    | true =>
      have hp : 1 ≤ x.pros.length := by
        simp only [fitsB, Bool.and_eq_true, decide_eq_true_eq] at hf
        exact hf.1.2.1
      have hs : (bodiesL x.mons x.pros).all (standQ x.nodes 3) = false := by
        rw [List.all_eq_false]
        have hm : x.pros[0].body ∈ bodiesL x.mons x.pros := by
          rw [bodiesL, List.mem_append]
          exact .inr (List.mem_map.2 ⟨x.pros[0], List.getElem_mem (by omega), rfl⟩)
        refine ⟨_, hm, ?_⟩
        have : inZ 0 ((x.nodes.length : Int) - 1) x.pros[0].body = false := inZ_no.2 (by omega)
        rw [standQ, this]
        simp
      rw [ht, hs]
      simp
  · rw [tree_eq hpos]
    cases fitsB x.nodes.length x.mons x.pros <;> cases (namesL x.mons x.pros).all nameB <;> cases treeB x.nodes <;> simp
end Go.Proofs.Ythlbboppdmdceaa

/-
  A right program: what the program asks is what the specification asks.
-/
import Derived.Test.YtpdpmnkonkpheaaGreatImpS
import Derived.Test.YtpdpmnkonkpheaaGreatPureN
import Derived.Test.YtpdpmnkonkpheaaGreatTreeL
import Derived.Test.YtpdpmnkonkpheaaGreatAid
import Derived.Test.YtpdpmnkonkpheaaGreatTreeB
namespace Go.Proofs.YtpdpmnkonkpheaaGreat
open Go.RowKit

theorem body_stand (ns : List Nd) (b : Int) : bodyQ ns b = standQ ns 3 b := by
  rw [bodyQ, standQ, role_block]
  rfl
theorem all_flat {α β : Type} (f : α → List β) (q : β → Bool) : ∀ (xs : List α), (xs.flatMap f).all q = xs.all (fun x => (f x).all q)
  | [] => rfl
  | x :: xs => by rw [List.flatMap_cons, List.all_append, List.all_cons, all_flat f q xs]
theorem all_and {α : Type} (p q : α → Bool) : ∀ (xs : List α), xs.all (fun x => p x && q x) = (xs.all p && xs.all q)
  | [] => rfl
  | x :: xs => by
    rw [List.all_cons, List.all_cons, List.all_cons, all_and p q xs]
    cases p x <;> cases q x <;> cases xs.all p <;> rfl
theorem all_eq {α : Type} {p q : α → Bool} (h : ∀ x, p x = q x) (xs : List α) : xs.all p = xs.all q := by
  have : p = q := funext h
  rw [this]
theorem namesB_eq (xs : List ByteArray) (k : Nat) : namesB xs (k : Int) = (xs.all nameB && decide (xs.length ≤ k)) := by
  rw [namesB]
  congr 1
  rw [Bool.eq_iff_iff, decide_eq_true_iff, decide_eq_true_iff]
  omega
theorem monB_eq (x : Mo) : monB x = (fitM x && (monNames x).all nameB) := by
  have h1 := namesB_eq x.vars 3
  have h2 := namesB_eq x.queues 2
  have h3 : inZ 1 3 (x.ents.length : Int) = (decide (1 ≤ x.ents.length) && decide (x.ents.length ≤ 3)) := by
    rw [Bool.eq_iff_iff, inZ_yes, Bool.and_eq_true, decide_eq_true_iff, decide_eq_true_iff]
    omega
  have h4 : (x.ents.flatMap entNames).all nameB = x.ents.all entB := by
    rw [all_flat]
    exact all_eq (fun e => by simp [entNames, entB]) _
  have h5 : (monNames x).all nameB = (nameB x.name && x.vars.all nameB && x.queues.all nameB && x.ents.all entB) := by
    rw [monNames, List.all_append, List.all_append, List.all_append, h4]
    simp
  rw [monB, fitM, h5, h3]
  have h1' : namesB x.vars 3 = (x.vars.all nameB && decide (x.vars.length ≤ 3)) := h1
  have h2' : namesB x.queues 2 = (x.queues.all nameB && decide (x.queues.length ≤ 2)) := h2
  rw [h1', h2']
  cases nameB x.name <;> cases x.vars.all nameB <;> cases x.queues.all nameB <;> cases x.ents.all entB <;> cases decide (x.vars.length ≤ 3) <;> cases decide (x.queues.length ≤ 2) <;> cases decide (1 ≤ x.ents.length) <;> cases decide (x.ents.length ≤ 3) <;> rfl
theorem procB_eq (x : Pr) : procB x = (fitP x && (proNames x).all nameB) := by
  have h1' : namesB x.uses 3 = (x.uses.all nameB && decide (x.uses.length ≤ 3)) := namesB_eq x.uses 3
  have h2' : namesB x.vars 3 = (x.vars.all nameB && decide (x.vars.length ≤ 3)) := namesB_eq x.vars 3
  have h5 : (proNames x).all nameB = (nameB x.name && x.uses.all nameB && x.vars.all nameB) := by
    rw [proNames, List.all_append, List.all_append]
    simp
  rw [procB, fitP, h5, h1', h2']
  cases nameB x.name <;> cases x.uses.all nameB <;> cases x.vars.all nameB <;> cases decide (x.uses.length ≤ 3) <;> cases decide (x.vars.length ≤ 3) <;> rfl
theorem lists_eq (n : Nat) (ms : List Mo) (ps : List Pr) : (decide (n ≤ 160) && listsB ms ps) = (fitsB n ms ps && (namesL ms ps).all nameB) := by
  have h1 : ms.all monB = (ms.all fitM && (ms.flatMap monNames).all nameB) := by
    rw [all_flat, ← all_and]
    exact all_eq monB_eq ms
  have h2 : ps.all procB = (ps.all fitP && (ps.flatMap proNames).all nameB) := by
    rw [all_flat, ← all_and]
    exact all_eq procB_eq ps
  have h3 : inZ 1 4 (ps.length : Int) = (decide (1 ≤ ps.length) && decide (ps.length ≤ 4)) := by
    rw [Bool.eq_iff_iff, inZ_yes, Bool.and_eq_true, decide_eq_true_iff, decide_eq_true_iff]
    omega
  have h4 : decide ((ms.length : Int) ≤ 3) = decide (ms.length ≤ 3) := by
    rw [Bool.eq_iff_iff, decide_eq_true_iff, decide_eq_true_iff]
    omega
  rw [listsB, fitsB, namesL, List.all_append, h1, h2, h3, h4]
  cases decide (n ≤ 160) <;> cases decide (ms.length ≤ 3) <;> cases decide (1 ≤ ps.length) <;> cases decide (ps.length ≤ 4) <;> cases ms.all fitM <;> cases ps.all fitP <;> cases (ms.flatMap monNames).all nameB <;> cases (ps.flatMap proNames).all nameB <;> rfl
theorem tree_eq {ns : List Nd} (hn : 0 < ns.length) : (deepsTo ns ns.length).all deepQ = treeB ns := by
  have hlast : (deepsTo ns ns.length).getD (ns.length - 1) 0 = (deepsTo ns (ns.length - 1 + 1)).getD (ns.length - 1) 0 := by rw [Nat.sub_add_cancel hn]
  rw [Bool.eq_iff_iff, treeB, Bool.and_eq_true, decide_eq_true_iff]
  constructor
  · intro h
    refine ⟨List.all_eq_true.2 fun k hk => ?_, ?_⟩
    · rw [List.mem_range] at hk
      rw [nodeAt_in hk]
      exact deep_right h hk
    · have hk : ns.length - 1 < (deepsTo ns ns.length).length := by rw [deepsTo_len]; omega
      have h1 := List.all_eq_true.1 h _ (List.getElem_mem hk)
      have e : (deepsTo ns ns.length).getD (ns.length - 1) 0 = (deepsTo ns ns.length)[ns.length - 1] := by
        simp [List.getD_eq_getElem?_getD, List.getElem?_eq_getElem hk]
      rw [e]
      have := inZ_yes.1 h1
      omega
  · intro ⟨_, h2⟩
    rw [List.all_eq_true]
    intro d hd
    obtain ⟨i, hi, rfl⟩ := List.getElem_of_mem hd
    have hi2 : i < ns.length := by rw [deepsTo_len] at hi; exact hi
    have e : (deepsTo ns ns.length).getD i 0 = (deepsTo ns ns.length)[i] := by
      simp [List.getD_eq_getElem?_getD, List.getElem?_eq_getElem hi]
    have hb := deepsTo_in ns ns.length i
    rw [e] at hb
    refine inZ_yes.2 ⟨?_, hb.2⟩
    rcases Int.lt_or_le 0 (deepsTo ns ns.length)[i] with h | h
    · omega
    · have hz : (deepsTo ns (i + 1)).getD i 0 = 0 := by
        have e1 := deepsTo_at ns ns.length hi2
        have e2 := deepsTo_at ns (i + 1) (Nat.lt_succ_self i)
        rw [e2, ← e1, e]
        omega
      have := deep_zero hz (ns.length - 1) (by omega)
      rw [hlast, this] at h2
      omega
theorem prog_eq (x : Pg) : specProgB x = implProgB x := by
  have hb : (bodiesL x.mons x.pros).all (bodyQ x.nodes) = (bodiesL x.mons x.pros).all (standQ x.nodes 3) := all_eq (body_stand x.nodes) _
  rw [specProgB, implProgB, lists_eq, hb]
  rcases Nat.eq_zero_or_pos x.nodes.length with h0 | hpos
  · have ht : treeB x.nodes = false := by
      rw [treeB, h0]
      simp [deepsTo]
    cases hf : fitsB x.nodes.length x.mons x.pros with
    | false => simp
    | true =>
      have hp : 1 ≤ x.pros.length := by
        simp only [fitsB, Bool.and_eq_true, decide_eq_true_eq] at hf
        exact hf.1.2.1
      have hs : (bodiesL x.mons x.pros).all (standQ x.nodes 3) = false := by
        rw [List.all_eq_false]
        have hm : x.pros[0].body ∈ bodiesL x.mons x.pros := by
          rw [bodiesL, List.mem_append]
          exact .inr (List.mem_map.2 ⟨x.pros[0], List.getElem_mem (by omega), rfl⟩)
        refine ⟨_, hm, ?_⟩
        have : inZ 0 ((x.nodes.length : Int) - 1) x.pros[0].body = false := inZ_no.2 (by omega)
        rw [standQ, this]
        simp
      rw [ht, hs]
      simp
  · rw [tree_eq hpos]
    cases fitsB x.nodes.length x.mons x.pros <;> cases (namesL x.mons x.pros).all nameB <;> cases treeB x.nodes <;> simp
end Go.Proofs.YtpdpmnkonkpheaaGreat

namespace Go.Proofs.YtpdpmnkonkpheaaGreat
open Go.RowKit

theorem sum_le {α : Type} (f g : α → Nat) (h : ∀ x, f x ≤ g x) : ∀ (xs : List α), (xs.map f).sum ≤ (xs.map g).sum
  | [] => Nat.le_refl _
  | x :: xs => by
    rw [List.map_cons, List.map_cons, List.sum_cons, List.sum_cons]
    have := sum_le f g h xs
    have := h x
    omega
theorem len_flat {α β : Type} (f : α → List β) : ∀ (xs : List α), (xs.flatMap f).length = (xs.map fun x => (f x).length).sum
  | [] => rfl
  | x :: xs => by rw [List.flatMap_cons, List.length_append, List.map_cons, List.sum_cons, len_flat f xs]
theorem szPg_kids {x : Pg} (h : szPg x ≤ 1048576) : (allKids x.nodes).length ≤ 1048576 := by
  have h1 : szPg x = szNds x.nodes + szMos x.mons + szPrs x.pros := rfl
  have h2 : szNds x.nodes = x.nodes.length + (x.nodes.map szNd).sum := rfl
  have h3 := sum_le (fun y : Nd => y.kids.length) szNd (fun y => by show y.kids.length ≤ y.name.size + y.more.size + y.into.size + y.kids.length; omega) x.nodes
  rw [allKids, len_flat]
  omega
theorem szPg_bodies {x : Pg} (h : szPg x ≤ 1048576) : (bodiesL x.mons x.pros).length ≤ 1048576 := by
  have h1 : szPg x = szNds x.nodes + szMos x.mons + szPrs x.pros := rfl
  have h2 : szMos x.mons = x.mons.length + (x.mons.map szMo).sum := rfl
  have h4 : szPrs x.pros = x.pros.length + (x.pros.map szPr).sum := rfl
  have h3 := sum_le (fun y : Mo => (y.ents.map En.body).length) szMo (fun y => by
    have e : szMo y = y.name.size + szStrs y.vars + szStrs y.queues + szEns y.ents := rfl
    have e2 : szEns y.ents = y.ents.length + (y.ents.map szEn).sum := rfl
    show (y.ents.map En.body).length ≤ szMo y
    rw [List.length_map]
    omega) x.mons
  rw [bodiesL, List.length_append, List.length_map, len_flat]
  omega

end Go.Proofs.YtpdpmnkonkpheaaGreat

namespace Go.Proofs.YtpdpmnkonkpheaaGreat

def markK (u : List Bool) (ks : List Int) : List Bool := ks.foldl (fun u y => u.set y.toNat true) u
/-- One node: its kids are marked when it is. -/
def undS (ns : List Nd) (u : List Bool) (i : Nat) : List Bool := if u.getD i false = true then markK u (ns.getD i default).kids else u
/-- The nodes ahead of a place, the last first. -/
def undF (ns : List Nd) (u : List Bool) : Nat → List Bool
  | 0 => u
  | i + 1 => undF ns (undS ns u i) i
/-- The node at k and all below it, marked among n. -/
def undL (ns : List Nd) (n k : Nat) : List Bool := undF ns ((List.replicate n false).set k true) (k + 1)
theorem markK_len : ∀ (ks : List Int) (u : List Bool), (markK u ks).length = u.length
  | [], _ => rfl
  | y :: ks, u => by
    show (markK (u.set y.toNat true) ks).length = _
    rw [markK_len ks, List.length_set]
theorem undS_len (ns : List Nd) (u : List Bool) (i : Nat) : (undS ns u i).length = u.length := by
  unfold undS
  split
  · exact markK_len _ _
  · rfl
theorem undF_len (ns : List Nd) : ∀ (m : Nat) (u : List Bool), (undF ns u m).length = u.length
  | 0, _ => rfl
  | m + 1, u => by rw [undF, undF_len ns m, undS_len]
theorem undL_len (ns : List Nd) (n k : Nat) : (undL ns n k).length = n := by rw [undL, undF_len, List.length_set, List.length_replicate]
theorem markK_snoc (u : List Bool) (ks : List Int) (y : Int) : markK u (ks ++ [y]) = (markK u ks).set y.toNat true := by simp [markK]
theorem markK_keep : ∀ (ks : List Int) (u : List Bool) (i : Nat), u.getD i false = true → (markK u ks).getD i false = true
  | [], _, _, h => h
  | y :: ks, u, i, h => by
    show (markK (u.set y.toNat true) ks).getD i false = true
    refine markK_keep ks _ i ?_
    rw [List.getD_eq_getElem?_getD] at h ⊢
    by_cases e : y.toNat = i
    · subst e
      by_cases hl : y.toNat < u.length
      · rw [List.getElem?_set_self hl]; rfl
      · rw [List.getElem?_eq_none (by omega)] at h; cases h
    · rw [List.getElem?_set_ne e]
      exact h
end Go.Proofs.YtpdpmnkonkpheaaGreat

namespace Go.Proofs.YtpdpmnkonkpheaaGreat
open Go.RowKit

theorem Tryz.infoBool : (Tryz.prog.info? 4).map (fun i => (i.zero, i.size, i.bytes)) = some (some (.bool false), 1, 1) := by kernel_rfl
/-- While nodes are marked: the row of marks, what was there. -/
structure UndZ (W1 : World) (n : Nat) (u : List Bool) (wr : World) : Prop where
  own : wr.ownsRow W1.heap.size 4 1 (.slice (some ⟨W1.heap.size, 0, none⟩) n n) n (u.map Value.bool)
  bel : Below W1.heap.size W1 wr
  len : u.length = n
theorem UndZ.step {W1 : World} {n : Nat} {u : List Bool} {wr : World} (h : UndZ W1 n u wr) (y : Nat) : UndZ W1 n (u.set y true) (wr.setCell ⟨W1.heap.size, y, none⟩ (.bool true)) := by
  have := (h.own.stored y (.bool true)).1
  refine ⟨?_, h.bel.setCell (Nat.le_refl _) _, by rw [List.length_set]; exact h.len⟩
  rw [List.map_set]
  exact this
theorem UndZ.cell {W1 : World} {n : Nat} {u : List Bool} {wr : World} (h : UndZ W1 n u wr) {j : Nat} (hj : j < n) : wr.cell? ⟨W1.heap.size, j, none⟩ = some (.bool (u.getD j false)) ∧ wr.frozen? ⟨W1.heap.size, j, none⟩ = false := by
  refine ⟨?_, h.own.frozenAt j⟩
  rw [h.own.cellAt j (by omega), List.getElem?_map, List.getD_eq_getElem?_getD, List.getElem?_eq_getElem (by rw [h.len]; exact hj)]
  rfl
theorem flat_oneB (n : Nat) : (List.replicate n [Value.bool false]).flatten = (List.replicate n false).map Value.bool := by
  induction n with
  | zero => rfl
  | succ m ih => rw [List.replicate_succ, List.flatten_cons, ih]; rfl
def UndO (W1 : World) (ns : List Nd) (n : Nat) (k : Nat) (R : List Bool) (iv : Value) (wr : World) : Prop := ∃ (m : Nat) (u : List Bool), m ≤ k + 1 ∧ iv = .int .i64 ((m : Int) - 1) ∧ Hid (UndZ W1 n u wr) ∧ Hid (undF ns u m = R)
def UndI (W1 : World) (n : Nat) (u : List Bool) (ks : List Int) (jv : Value) (wr : World) : Prop := ∃ j : Nat, j ≤ ks.length ∧ jv = .int .i64 j ∧ Hid (UndZ W1 n (markK u (ks.take j)) wr)

set_option maxRecDepth 100000 in
set_option maxHeartbeats 2000000 in
theorem l08Under_any (nv mv pv : Value) (ns : List Nd) (k : Nat) (w : World) (hN : NdsAt w nv ns) (hM : ∃ o n c, mv = .slice o n c) (hP : ∃ o n c, pv = .slice o n c) (hl : ns.length ≤ 1048576) (hk : k < ns.length) (hkx : ∀ x ∈ ns, x.kids.length ≤ 1048576) (hK : ∀ x ∈ ns, ∀ y ∈ x.kids, 0 ≤ y ∧ y < (ns.length : Int)) :
    Calls Tryz.prog 57 #[.agg #[nv, mv, pv], .int .i64 (k : Int)] w fun e w' => ∃ v, e = .returned v ∧ w'.ownsRow (w.heap.size + 1) 4 1 v ns.length ((undL ns ns.length k).map Value.bool) ∧ Below w.heap.size w w' := by
  have hb1 : Below w.heap.size w (w.alloc (.cells #[nv, mv, pv] 33)) := (Below.refl _ _).alloc (Nat.le_refl _) _
  have HN := hide (hN.stays hb1)
  have HX := hide (Boxed.made w nv mv pv 33)
  have HB := hide hb1
  have HS : Hid ((w.alloc (.cells #[nv, mv, pv] 33)).heap.size = w.heap.size + 1) := by show _ = _; simp
  clear hb1
  obtain ⟨ao, c, rfl, _⟩ := hN
  obtain ⟨mo, mn, mc, rfl⟩ := hM
  obtain ⟨po, pn, pc, rfl⟩ := hP
  obtain ⟨n, en⟩ : ∃ n, ns.length = n := ⟨_, rfl⟩
  have EN := hide en
  have HKX := hide hkx
  have HK := hide hK
  simp only [en] at HN HX HB HS hl HK hk ⊢
  clear en hkx hK
  obtain ⟨W1, hW⟩ : ∃ W1, w.alloc (.cells #[.slice ao n c, .slice mo mn mc, .slice po pn pc] 33) = W1 := ⟨_, rfl⟩
  obtain ⟨i0, hi, hz0, hz1, hz2⟩ := info_parts (Tryz.infoBool)
  obtain ⟨wm, hmk, hown, hgr⟩ := run_make_full (P := Tryz.prog) W1 W1.heap.size 102 4 i0 (.bool false) 1 Tryz.underlying102 hi hz0 hz1 .i64 .i64 n (by rw [hz2]; omega) (by unfold maxLen; omega) (Nat.le_refl _)
  rw [hW] at HN HX HB HS
  have OW : Hid (UndZ W1 n (List.replicate n false) wm) := by
    have e := made_flat [.bool false] (by decide) n
    simp only [List.length_singleton] at e
    refine ⟨?_, (Below.refl _ _).grown hgr (Nat.le_refl _) (fun k hk => by cases hk), by simp⟩
    rw [← flat_oneB, ← e]
    exact hown
  have OW1 := hide (OW.out.step k)
  rw [HS.out, ← hW] at hmk
  have HWW := hide hW
  have hk0 : (0 : Int) ≤ (k : Int) := by omega
  have hkn : (k : Int) < (n : Int) := by omega
  obtain ⟨q0, f0⟩ := OW.out.cell hk
  rw [HS.out] at q0 f0 OW1
  clear hown hgr hi hz0 hz1 hz2 hW
  obtain ⟨c0, c1, c2, hlt0⟩ := HX.out.stays OW.out.bel
  go_enter Tryz.func57, Tryz.ntmps57
  go_wp2
  rw [← HS.out] at OW1 ⊢
  clear c0 c1 c2 hlt0 q0 f0 hmk
  go_loopw [6] (fun iv wr => UndO W1 ns n k (undL ns n k) iv wr) (fun iv _ => (intOf iv + 1).toNat)
  case atStart => exact ⟨k + 1, _, Nat.le_refl _, by simp, OW1.out, rfl⟩
  case round =>
    clear OW1 OW
    obtain ⟨m, u, hm, rfl, HU, HR⟩ := hrel
    cases m with
    | zero =>
      have HF : Hid (u = undL ns n k) := HR.out
      have HO : Hid (wr.ownsRow (w.heap.size + 1) 4 1 (.slice (some ⟨W1.heap.size, 0, none⟩) n n) n ((undL ns n k).map Value.bool)) := by
        have h := HU.out.own
        rw [HF.out, HS.out] at h
        rw [HS.out]
        exact h
      have HBB := hide (HB.out.trans (HU.out.bel.mono (by rw [HS.out]; omega)))
      go_wp2
      go_ret
      exact ⟨_, rfl, HO.out, HBB.out⟩
    | succ i =>
      have ei : ((i + 1 : Nat) : Int) - 1 = (i : Int) := by omega
      rw [ei]
      have hin : i < n := by omega
      have hi0 : (0 : Int) ≤ (i : Int) := by omega
      have hi1 : (i : Int) < (n : Int) := by omega
      have hix : i < ns.length := by rw [EN.out]; exact hin
      have HKK := hide (HK.out _ (List.getElem_mem hix))
      have hkl := HKX.out _ (List.getElem_mem hix)
      have HG : Hid (ns.getD i default = ns[i]) := by show _ = _; rw [List.getD_eq_getElem?_getD, List.getElem?_eq_getElem hix]; rfl
      have HUS : Hid (undF ns (undS ns u i) i = undL ns n k) := HR.out
      obtain ⟨x, ex⟩ : ∃ x, ns[i] = x := ⟨_, rfl⟩
      have EX := hide ex
      rw [ex] at HKK hkl HG
      obtain ⟨kl, ekl⟩ : ∃ kl, x.kids.length = kl := ⟨_, rfl⟩
      have EKL := hide ekl
      rw [ekl] at hkl
      clear ex ekl ei
      cases hui : u.getD i false with
      | false =>
        have HS2 : Hid (undS ns u i = u) := by show _ = _; rw [undS, hui]; rfl
        have HBI : Hid (u.getD i false = false) := hui
        clear hui
        go_wp2
        go_loopw [7] (fun jv z => jv = .int .i64 0 ∧ Hid (UndZ W1 n u z)) (fun _ _ => 0)
        case atStart => exact ⟨rfl, HU⟩
        case round =>
          obtain ⟨rfl, HV⟩ := hrel
          obtain ⟨c0, c1, c2, _⟩ := HX.out.stays HV.out.bel
          obtain ⟨q0, f0⟩ := HV.out.cell hin
          rw [HBI.out] at q0
          obtain ⟨a', cc', p, kv, e5, hpa, hpb, hnode⟩ := (HN.out.stays HV.out.bel).node i hix
          injection e5 with e6 e7 e8
          subst e6
          have d5 := hnode.c5
          have hkr := hnode.kids
          rw [EX.out] at hkr
          obtain ⟨ko, kc, rfl, hkc⟩ := hkr
          rw [EKL.out] at d5
          clear hnode e7 e8
          by_cases hz : (0 : Int) < (kl : Int)
          · go_wp2
            go_roundw
            case rel => exact ⟨i, u, by omega, rfl, HV.out, by rw [← HS2.out]; exact HUS.out⟩
            case measure => simp [intOf]
          · go_wp2
            go_roundw
            case rel => exact ⟨i, u, by omega, rfl, HV.out, by rw [← HS2.out]; exact HUS.out⟩
            case measure => simp [intOf]
      | true =>
        have HS2 : Hid (undS ns u i = markK u x.kids) := by show _ = _; rw [undS, hui, HG.out]; rfl
        have HKP : Hid (∀ ks, (markK u ks).getD i false = true) := fun ks => markK_keep ks u i hui
        clear hui
        go_wp2
        go_loopw [7] (fun jv z => UndI W1 n u x.kids jv z) (fun jv _ => kl - (intOf jv).toNat)
        case atStart => exact ⟨0, by omega, rfl, HU.out⟩
        case round =>
          obtain ⟨j, hj, rfl, HV⟩ := hrel
          rw [EKL.out] at hj
          have HBI := hide (HKP.out (x.kids.take j))
          obtain ⟨c0, c1, c2, _⟩ := HX.out.stays HV.out.bel
          obtain ⟨q0, f0⟩ := HV.out.cell hin
          rw [HBI.out] at q0
          obtain ⟨a', cc', p, kv, e5, hpa, hpb, hnode⟩ := (HN.out.stays HV.out.bel).node i hix
          injection e5 with e6 e7 e8
          subst e6
          have d5 := hnode.c5
          have hkr := hnode.kids
          rw [EX.out] at hkr
          obtain ⟨ko, kc, rfl, hkc⟩ := hkr
          rw [EKL.out] at d5
          clear hnode e7 e8
          by_cases hltj : j < kl
          · have hltj' : (j : Int) < (kl : Int) := by omega
            have hj0 : (0 : Int) ≤ (j : Int) := by omega
            have hjx : j < x.kids.length := by rw [EKL.out]; exact hltj
            obtain ⟨b, rfl, _, hy⟩ := hkc j hjx
            have HT : Hid (markK u (x.kids.take (j + 1)) = (markK u (x.kids.take j)).set x.kids[j].toNat true) := by
              show _ = _
              rw [List.take_succ_eq_append_getElem hjx, markK_snoc]
            obtain ⟨hy0, hy1⟩ := HKK.out _ (List.getElem_mem hjx)
            obtain ⟨t, ht⟩ : ∃ t : Nat, x.kids[j] = (t : Int) := ⟨x.kids[j].toNat, by omega⟩
            rw [ht] at hy HT hy0 hy1
            rw [Int.toNat_natCast] at HT
            have htn : t < n := by omega
            obtain ⟨r0, g0⟩ := HV.out.cell htn
            have HST := hide (HV.out.step t)
            clear hkc ht
            go_wp2
            go_roundw
            case rel => exact ⟨j + 1, by rw [EKL.out]; omega, by go_num, by rw [HT.out]; exact HST.out⟩
            case measure => simp [intOf]; omega
          · have hltj' : ¬ (j : Int) < (kl : Int) := by omega
            have HE : Hid (x.kids.take j = x.kids) := List.take_of_length_le (by rw [EKL.out]; omega)
            rw [HE.out] at HV
            go_wp2
            go_roundw
            case rel => exact ⟨i, markK u x.kids, by omega, rfl, HV.out, by rw [← HS2.out]; exact HUS.out⟩
            case measure => simp [intOf]
end Go.Proofs.YtpdpmnkonkpheaaGreat

namespace Go.Proofs.YtpdpmnkonkpheaaGreat

/-- The kids of each node stand ahead of it. -/
def KidsLow (ns : List Nd) : Prop := ∀ i, ∀ y ∈ (ns.getD i default).kids, 0 ≤ y ∧ y < (i : Int)
theorem markK_set : ∀ (ks : List Int) (u : List Bool) (y : Int), y ∈ ks → y.toNat < u.length → (markK u ks).getD y.toNat false = true
  | [], _, _, h, _ => absurd h (by simp)
  | z :: ks, u, y, h, hl => by
    show (markK (u.set z.toNat true) ks).getD y.toNat false = true
    rcases List.mem_cons.1 h with rfl | h
    · refine markK_keep ks _ _ ?_
      rw [List.getD_eq_getElem?_getD, List.getElem?_set_self hl]
      rfl
    · exact markK_set ks _ y h (by rw [List.length_set]; exact hl)
theorem markK_other : ∀ (ks : List Int) (u : List Bool) (i : Nat), (∀ y ∈ ks, y.toNat ≠ i) → (markK u ks).getD i false = u.getD i false
  | [], _, _, _ => rfl
  | z :: ks, u, i, h => by
    show (markK (u.set z.toNat true) ks).getD i false = _
    rw [markK_other ks _ i fun y hy => h y (List.mem_cons_of_mem _ hy), List.getD_eq_getElem?_getD, List.getElem?_set_ne (h z (List.mem_cons_self)), ← List.getD_eq_getElem?_getD]
theorem undS_keep (ns : List Nd) (u : List Bool) (j i : Nat) (h : u.getD i false = true) : (undS ns u j).getD i false = true := by
  unfold undS
  split
  · exact markK_keep _ _ _ h
  · exact h
theorem undF_keep (ns : List Nd) : ∀ (m : Nat) (u : List Bool) (i : Nat), u.getD i false = true → (undF ns u m).getD i false = true
  | 0, _, _, h => h
  | m + 1, u, i, h => by
    rw [undF]
    exact undF_keep ns m _ i (undS_keep ns u m i h)
theorem undS_high {ns : List Nd} (hk : KidsLow ns) (u : List Bool) {j i : Nat} (h : j ≤ i) : (undS ns u j).getD i false = u.getD i false := by
  unfold undS
  split
  · exact markK_other _ _ _ fun y hy => by have := hk j y hy; omega
  · rfl
theorem undF_high {ns : List Nd} (hk : KidsLow ns) : ∀ (m : Nat) (u : List Bool) (i : Nat), m ≤ i → (undF ns u m).getD i false = u.getD i false
  | 0, _, _, _ => rfl
  | m + 1, u, i, h => by rw [undF, undF_high hk m _ i (by omega), undS_high hk u (by omega)]
theorem undF_kid {ns : List Nd} (hk : KidsLow ns) : ∀ (m : Nat) (u : List Bool) (i : Nat) (y : Int), i < m → (undF ns u m).getD i false = true → y ∈ (ns.getD i default).kids → y.toNat < u.length → (undF ns u m).getD y.toNat false = true
  | 0, _, _, _, h, _, _, _ => absurd h (Nat.not_lt_zero _)
  | m + 1, u, i, y, hi, hm, hy, hl => by
    rw [undF] at hm ⊢
    by_cases e : i = m
    · subst e
      rw [undF_high hk i _ i (Nat.le_refl _), undS_high hk u (Nat.le_refl _)] at hm
      refine undF_keep ns i _ _ ?_
      rw [undS, if_pos hm]
      exact markK_set _ _ _ hy hl
    · exact undF_kid hk m _ i y (by omega) hm hy (by rw [undS_len]; exact hl)
theorem undL_self (ns : List Nd) {n k : Nat} (h : k < n) : (undL ns n k).getD k false = true := by
  refine undF_keep ns _ _ _ ?_
  rw [List.getD_eq_getElem?_getD, List.getElem?_set_self (by rw [List.length_replicate]; exact h)]
  rfl
theorem undL_kid {ns : List Nd} (hk : KidsLow ns) {n k i : Nat} {y : Int} (hi : i ≤ k) (hn : i < n) (hm : (undL ns n k).getD i false = true) (hy : y ∈ (ns.getD i default).kids) : (undL ns n k).getD y.toNat false = true := by
  refine undF_kid hk _ _ i y (by omega) hm hy ?_
  have := hk i y hy
  rw [List.length_set, List.length_replicate]
  omega
/-- Where each node is a body, or a kid of a node, each node is under a body. -/
theorem under_some {ns : List Nd} (hk : KidsLow ns) {bs : List Int} (hb : ∀ b ∈ bs, 0 ≤ b ∧ b < (ns.length : Int)) (hu : ∀ i < ns.length, (i : Int) ∈ bs ∨ ∃ j < ns.length, (i : Int) ∈ (ns.getD j default).kids) :
    ∀ (d i : Nat), ns.length ≤ i + d → i < ns.length → ∃ b ∈ bs, i ≤ b.toNat ∧ (undL ns ns.length b.toNat).getD i false = true
  | 0, i, h, hi => absurd h (by omega)
  | d + 1, i, h, hi => by
    rcases hu i hi with h1 | ⟨j, hj, h1⟩
    · exact ⟨(i : Int), h1, by omega, by rw [Int.toNat_natCast]; exact undL_self ns hi⟩
    · have h2 := hk j _ h1
      obtain ⟨b, hb1, hb2, hb3⟩ := under_some hk hb hu d j (by omega) hj
      refine ⟨b, hb1, by omega, ?_⟩
      have h3 := undL_kid hk hb2 hj hb3 h1
      rwa [Int.toNat_natCast] at h3
end Go.Proofs.YtpdpmnkonkpheaaGreat

namespace Go.Proofs.YtpdpmnkonkpheaaGreat
open Go.RowKit

/-- The place of the first that is so; -1 without one. -/
def firstAt {α : Type} (f : α → Bool) (xs : List α) : Int := match xs.findIdx? f with
  | some i => (i : Int)
  | none => -1
theorem first_hit {α : Type} {f : α → Bool} {xs : List α} {i : Nat} (hi : i < xs.length) (h : ∀ j (hj : j < xs.length), j < i → f xs[j] = false) (hx : f xs[i] = true) : firstAt f xs = (i : Int) := by
  have e : xs.findIdx? f = some i := List.findIdx?_eq_some_iff_getElem.2 ⟨hi, hx, fun j hj => by rw [h j (by omega) hj]; exact Bool.noConfusion⟩
  rw [firstAt, e]
theorem first_none {α : Type} {f : α → Bool} {xs : List α} (h : ∀ j (hj : j < xs.length), f xs[j] = false) : firstAt f xs = -1 := by
  have e : xs.findIdx? f = none := List.findIdx?_eq_none_iff.2 (fun x hx => by
    obtain ⟨j, hj, rfl⟩ := List.getElem_of_mem hx
    exact h j hj)
  rw [firstAt, e]
theorem first_le {α : Type} (f : α → Bool) (xs : List α) : -1 ≤ firstAt f xs ∧ firstAt f xs < (xs.length : Int) := by
  rw [firstAt]
  split
  · rename_i i e
    have := (List.findIdx?_eq_some_iff_getElem.1 e).1
    omega
  · omega
/-- What a search has seen so far. -/
def NoneTo {α : Type} (f : α → Bool) (xs : List α) (i : Nat) : Prop := ∀ j (hj : j < xs.length), j < i → f xs[j] = false
theorem NoneTo.zero {α : Type} (f : α → Bool) (xs : List α) : NoneTo f xs 0 := fun _ _ h => absurd h (Nat.not_lt_zero _)
theorem NoneTo.step {α : Type} {f : α → Bool} {xs : List α} {i : Nat} (h : NoneTo f xs i) (hx : ∀ hi : i < xs.length, f xs[i] = false) : NoneTo f xs (i + 1) := fun j hj hji => by
  by_cases e : j = i
  · subst e; exact hx hj
  · exact h j hj (by omega)
def monN (name : ByteArray) (m : Mo) : Bool := decide (m.name = name)
def entN (name : ByteArray) (m : En) : Bool := decide (m.name = name)
def SchR {α : Type} (w : World) (f : α → Bool) (xs : List α) (iv : Value) (wr : World) : Prop := ∃ i : Nat, i ≤ xs.length ∧ iv = .int .i64 i ∧ Hid (Below w.heap.size w wr) ∧ Hid (NoneTo f xs i)
theorem NoneTo.hit {α : Type} {f : α → Bool} {xs : List α} {i : Nat} (h : NoneTo f xs i) (hi : i < xs.length) (hx : f xs[i] = true) : firstAt f xs = (i : Int) := first_hit hi h hx
theorem NoneTo.none {α : Type} {f : α → Bool} {xs : List α} {i : Nat} (h : NoneTo f xs i) (hi : xs.length ≤ i) : firstAt f xs = -1 := first_none fun j hj => h j hj (by omega)
/-- A value that is a slice. -/
def SlV (v : Value) : Prop := ∃ o n c, v = .slice o n c
theorem StrsAt.sl {w : World} {v : Value} {xs : List ByteArray} (h : StrsAt w v xs) : SlV v := by obtain ⟨a, c, e, _⟩ := h; exact ⟨_, _, _, e⟩
theorem NdsAt.sl {w : World} {v : Value} {xs : List Nd} (h : NdsAt w v xs) : SlV v := by obtain ⟨a, c, e, _⟩ := h; exact ⟨_, _, _, e⟩
theorem PrsAt.sl {w : World} {v : Value} {xs : List Pr} (h : PrsAt w v xs) : SlV v := by obtain ⟨a, c, e, _⟩ := h; exact ⟨_, _, _, e⟩
end Go.Proofs.YtpdpmnkonkpheaaGreat

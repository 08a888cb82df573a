/-
  Pure: both sides find the same to be wrong with the names of a program.
-/
import Derived.Test.YtpdpmnkonkpheaaGreatImvL
import Derived.Test.YtpdpmnkonkpheaaGreatPureP
import Derived.Test.YtpdpmnkonkpheaaGreatImvF
import Derived.Test.YtpdpmnkonkpheaaGreatRowQ
import Derived.Test.YtpdpmnkonkpheaaGreatAid
import Derived.Maps.OwnOps
import Derived.Maps.OwnSet
import Derived.BigQuiet
import Derived.WalkSmall
namespace Go.Proofs.YtpdpmnkonkpheaaGreat

theorem codeS_mon (m : Mo) (e : En) (x : Nd) : codeS (scoM m e) x.kind x.name x.more x.into = codeM m.queues (e.param :: resultN :: m.vars) x := by
  have hm : memB ((resultN :: m.vars) ++ [e.param]) x.name = memB (e.param :: resultN :: m.vars) x.name := memB_congr (by simp [or_comm, or_left_comm])
  unfold codeS codeM varS readS callS queueS scoM
  dsimp only
  rw [hm]
  by_cases h1 : x.kind = 2 ∨ x.kind = 11
  · rw [if_pos h1, if_neg (show ¬ (x.kind = 14 ∨ x.kind = 16) by omega), if_neg (show ¬ (x.kind = 17 ∨ x.kind = 18) by omega), if_pos h1]
  · rw [if_neg h1]
    by_cases h2 : x.kind = 16
    · rw [if_pos h2, if_pos (Or.inr h2), if_pos rfl]
    · rw [if_neg h2]
      by_cases h3 : x.kind = 14
      · rw [if_pos h3, if_pos (Or.inl h3), if_pos rfl]
      · rw [if_neg h3, if_neg (show ¬ (x.kind = 14 ∨ x.kind = 16) by omega)]
        by_cases h4 : x.kind = 17 ∨ x.kind = 18
        · rw [if_pos h4, if_pos h4, if_pos rfl]
        · rw [if_neg h4, if_neg h4, if_neg h1]
theorem any_names (s : ByteArray) : ∀ xs : List En, memB (xs.map En.name) s = xs.any (entN s)
  | [] => rfl
  | x :: xs => by
    show (decide (x.name = s) || memB (xs.map En.name) s) = (decide (x.name = s) || xs.any (entN s))
    rw [any_names s xs]
theorem first_neg {α : Type} {f : α → Bool} {xs : List α} : firstAt f xs < 0 ↔ xs.any f = false := by
  constructor
  · intro h
    rw [List.any_eq_false]
    intro x hx hf
    obtain ⟨i, hi, rfl⟩ := List.getElem_of_mem hx
    have h1 : xs.findIdx? f ≠ none := fun e => by
      have := List.findIdx?_eq_none_iff.1 e _ (List.getElem_mem hi)
      rw [hf] at this
      cases this
    unfold firstAt at h
    split at h
    · omega
    · rename_i e
      exact h1 e
  · intro h
    have h2 := List.any_eq_false.1 h
    rw [first_none fun j hj => by
      have := h2 _ (List.getElem_mem hj)
      simpa using this]
    omega
theorem ents_neg {ms : List Mo} {s t : ByteArray} (h : 0 ≤ firstAt (monN s) ms) : entAt ms (firstAt (monN s) ms) t < 0 ↔ memB (entsOf ms s) t = false := by
  have hl := (first_le (monN s) ms).2
  unfold entsOf
  rw [any_names, entAt, if_pos ⟨h, hl⟩]
  exact first_neg
theorem codeS_pro {ms : List Mo} {p : Pr} (hu : useB ms p = true) (x : Nd) : codeS (scoP ms p) x.kind x.name x.more x.into = codeP ms p.uses p.vars x := by
  have hc : (if memB (if memB p.uses x.name = true then entsOf ms x.name else []) x.more = true then (0 : Int) else 4) = (if memB p.uses x.name = false ∨ entAt ms (firstAt (monN x.name) ms) x.more < 0 then 4 else 0) := by
    by_cases h1 : memB p.uses x.name = true
    · have h2 : 0 ≤ firstAt (monN x.name) ms := by
        have h := List.all_eq_true.1 hu x.name (memB_iff.1 h1)
        exact of_decide_eq_true h
      rw [if_pos h1]
      cases h3 : memB (entsOf ms x.name) x.more with
      | true =>
        rw [if_pos rfl, if_neg]
        rintro (h4 | h4)
        · rw [h1] at h4; cases h4
        · rw [(ents_neg h2).1 h4] at h3; cases h3
      | false =>
        rw [if_neg (by decide), if_pos (Or.inr ((ents_neg h2).2 h3))]
    · have h2 : memB p.uses x.name = false := by simpa using h1
      rw [if_neg h1, if_pos (Or.inl h2)]
      rfl
  unfold codeS codeP varS readS callS queueS scoP
  dsimp only
  rw [hc]
  by_cases h1 : x.kind = 2 ∨ x.kind = 11
  · rw [if_pos h1, if_neg (show ¬ x.kind = 14 by omega), if_pos (Or.inr h1)]
  · rw [if_neg h1]
    by_cases h2 : x.kind = 16
    · rw [if_pos h2, if_neg (by decide), if_neg (show ¬ x.kind = 14 by omega), if_pos (Or.inl h2)]
      rfl
    · rw [if_neg h2]
      by_cases h3 : x.kind = 14
      · rw [if_pos h3, if_pos h3, if_neg (by decide)]
      · rw [if_neg h3, if_neg h3, if_neg (show ¬ (x.kind = 16 ∨ x.kind = 2 ∨ x.kind = 11) by omega)]
        by_cases h4 : x.kind = 17 ∨ x.kind = 18
        · rw [if_pos h4, if_pos h4, if_neg (by decide)]
        · rw [if_neg h4, if_neg h4]
theorem getD_setL {cs : List Int} {i j : Nat} {y : Int} : (cs.set i y).getD j 0 = if j = i ∧ j < cs.length then y else cs.getD j 0 := by
  by_cases e : i = j
  · subst e
    by_cases h : i < cs.length
    · rw [if_pos ⟨rfl, h⟩, List.getD_eq_getElem?_getD, List.getElem?_set_self h]
      rfl
    · rw [if_neg (by omega), List.getD_eq_getElem?_getD, List.getD_eq_getElem?_getD, List.getElem?_eq_none (by rw [List.length_set]; omega), List.getElem?_eq_none (by omega)]
  · rw [if_neg (by omega), List.getD_eq_getElem?_getD, List.getElem?_set_ne e, ← List.getD_eq_getElem?_getD]
theorem putAll_at (f : Nat → Int) (u : List Bool) (cs : List Int) {j : Nat} (hj : j < cs.length) : ∀ i, (putAll f cs (plTo u i)).getD j 0 = if j < i ∧ u.getD j false = true then f j else cs.getD j 0
  | 0 => by
    rw [if_neg (by omega)]
    rfl
  | i + 1 => by
    have ih := putAll_at f u cs hj i
    cases hu : u.getD i false with
    | true =>
      rw [plTo_yes hu, putAll_snoc, Int.toNat_natCast, getD_setL, putAll_len, ih]
      by_cases e : j = i
      · subst e
        rw [if_pos ⟨rfl, hj⟩, if_pos ⟨by omega, hu⟩]
      · rw [if_neg (fun h => e h.1)]
        have : (j < i ∧ u.getD j false = true) ↔ (j < i + 1 ∧ u.getD j false = true) := ⟨fun h => ⟨by omega, h.2⟩, fun h => ⟨by omega, h.2⟩⟩
        simp only [this]
    | false =>
      rw [plTo_no hu, ih]
      have : (j < i ∧ u.getD j false = true) ↔ (j < i + 1 ∧ u.getD j false = true) := by
        constructor
        · exact fun h => ⟨by omega, h.2⟩
        · intro h
          refine ⟨?_, h.2⟩
          by_cases e : j = i
          · subst e; rw [hu] at h; cases h.2
          · omega
      simp only [this]
theorem markK_short (ks : List Int) : ∀ (u v : List Bool) (i : Nat), u.length ≤ v.length → i < u.length → (∀ j < u.length, u.getD j false = v.getD j false) → (markK u ks).getD i false = (markK v ks).getD i false := by
  induction ks with
  | nil => exact fun u v i _ hi h => h i hi
  | cons y ks ih =>
    intro u v i hl hi h
    show (markK (u.set y.toNat true) ks).getD i false = (markK (v.set y.toNat true) ks).getD i false
    refine ih _ _ i (by rw [List.length_set, List.length_set]; exact hl) (by rw [List.length_set]; exact hi) fun j hj => ?_
    rw [List.length_set] at hj
    by_cases e : y.toNat = j
    · subst e
      rw [List.getD_eq_getElem?_getD, List.getElem?_set_self hj, List.getD_eq_getElem?_getD, List.getElem?_set_self (by omega)]
    · rw [List.getD_eq_getElem?_getD, List.getElem?_set_ne e, List.getD_eq_getElem?_getD, List.getElem?_set_ne e, ← List.getD_eq_getElem?_getD, ← List.getD_eq_getElem?_getD]
      exact h j hj
theorem undF_short (ns : List Nd) : ∀ (m : Nat) (u v : List Bool), m ≤ u.length → u.length ≤ v.length → (∀ j < u.length, u.getD j false = v.getD j false) → ∀ i < u.length, (undF ns u m).getD i false = (undF ns v m).getD i false
  | 0, _, _, _, _, h => h
  | m + 1, u, v, hm, hl, h => by
    have hs : ∀ j < u.length, (undS ns u m).getD j false = (undS ns v m).getD j false := fun j hj => by
      unfold undS
      rw [h m (by omega)]
      split
      · exact markK_short _ u v j hl hj h
      · exact h j hj
    intro i hi
    rw [undF, undF]
    exact undF_short ns m _ _ (by rw [undS_len]; omega) (by rw [undS_len, undS_len]; exact hl) (by rw [undS_len]; exact hs) i (by rw [undS_len]; exact hi)
theorem undI_at (ns : List Nd) {n k j : Nat} (hk : k < n) (hj : j < k + 1) : (undI ns k).getD j false = (undL ns n k).getD j false := by
  unfold undI undL
  refine undF_short ns (k + 1) _ _ (by simp) (by simp; omega) (fun i hi => ?_) j (by simp; omega)
  simp only [List.length_set, List.length_replicate] at hi
  by_cases e : k = i
  · subst e
    rw [List.getD_eq_getElem?_getD, List.getElem?_set_self (by simp), List.getD_eq_getElem?_getD, List.getElem?_set_self (by simpa using hk)]
  · rw [List.getD_eq_getElem?_getD, List.getElem?_set_ne e, List.getD_eq_getElem?_getD, List.getElem?_set_ne e, List.getElem?_replicate_of_lt hi, List.getElem?_replicate_of_lt (by omega)]
theorem undL_high {ns : List Nd} (hk : KidsLow ns) {n k j : Nat} (hj : k < j) : (undL ns n k).getD j false = false := by
  unfold undL
  rw [undF_high hk _ _ _ (by omega), List.getD_eq_getElem?_getD, List.getElem?_set_ne (by omega), List.getElem?_replicate]
  split <;> rfl
/-- A body's codes, by its marks among all nodes. -/
theorem put_body {ns : List Nd} (hk : KidsLow ns) (f : Nat → Int) (cs : List Int) {b j : Nat} (hl : cs.length = ns.length) (hb : b < ns.length) (hj : j < ns.length) :
    (putAll f cs (plTo (undI ns b) (b + 1))).getD j 0 = if (undL ns ns.length b).getD j false = true then f j else cs.getD j 0 := by
  rw [putAll_at f _ cs (by omega)]
  by_cases h : j < b + 1
  · rw [undI_at ns hb h]
    simp only [h, true_and]
  · rw [if_neg (by omega), undL_high hk (by omega), if_neg (by decide)]
/-- Codes and homes go together, at the places that were touched. -/
def Par (n : Nat) (cn : Nat → Hm → Int) (T : Nat → Prop) (cs : List Int) (hs : List Hm) : Prop := cs.length = n ∧ hs.length = n ∧ ∀ j < n, T j → cs.getD j 0 = cn j (hs.getD j (0, 0, 0))
theorem Par.step {ns : List Nd} {cn : Nat → Hm → Int} {T : Nat → Prop} {cs : List Int} {hs : List Hm} (hk : KidsLow ns) (hp : Par ns.length cn T cs hs) {b : Nat} (hb : b < ns.length) (f : Nat → Int) (h : Hm) (hf : ∀ j < ns.length, f j = cn j h) :
    Par ns.length cn (fun j => T j ∨ (undL ns ns.length b).getD j false = true) (putAll f cs (plTo (undI ns b) (b + 1))) (setTo hs (undL ns ns.length b) h ns.length) := by
  obtain ⟨h1, h2, h3⟩ := hp
  refine ⟨by rw [putAll_len]; exact h1, by rw [setTo_len]; exact h2, fun j hj ht => ?_⟩
  rw [put_body hk f cs h1 hb hj, setTo_at hs _ h j (by omega)]
  by_cases hu : (undL ns ns.length b).getD j false = true
  · rw [if_pos hu, if_pos ⟨hj, hu⟩]
    exact hf j hj
  · rw [if_neg hu, if_neg (fun q => hu q.2)]
    exact h3 j hj (ht.resolve_right hu)
theorem Par.mono {n : Nat} {cn : Nat → Hm → Int} {T T' : Nat → Prop} {cs : List Int} {hs : List Hm} (hp : Par n cn T cs hs) (h : ∀ j, T' j → T j) : Par n cn T' cs hs := ⟨hp.1, hp.2.1, fun j hj ht => hp.2.2 j hj (h j ht)⟩
theorem take_snocD {α : Type} [Inhabited α] {xs : List α} {i : Nat} (h : i < xs.length) : xs.take (i + 1) = xs.take i ++ [xs.getD i default] := by
  rw [List.take_succ_eq_append_getElem h, List.getD_eq_getElem?_getD, List.getElem?_eq_getElem h]
  rfl
theorem mem_getD {α : Type} [Inhabited α] {xs : List α} {i : Nat} (h : i < xs.length) : xs.getD i default ∈ xs := by
  rw [List.getD_eq_getElem?_getD, List.getElem?_eq_getElem h]
  exact List.getElem_mem h

theorem par_ents {ns : List Nd} {ms : List Mo} {ps : List Pr} (hk : KidsLow ns) {i : Nat} (hi : i < ms.length) (hB : ∀ e ∈ (ms.getD i default).ents, 0 ≤ e.body ∧ e.body < (ns.length : Int)) {T : Nat → Prop} {cs : List Int} {hs : List Hm} (hp : Par ns.length (codeN ns ms ps) T cs hs) :
    ∀ k, k ≤ (ms.getD i default).ents.length → Par ns.length (codeN ns ms ps) (fun j => T j ∨ ∃ k' < k, (undL ns ns.length ((ms.getD i default).ents.getD k' default).body.toNat).getD j false = true) (judM ns (ms.getD i default) cs ((ms.getD i default).ents.take k)) (entsTo ns ns.length i (ms.getD i default).ents hs k)
  | 0, _ => hp.mono fun j h => h.resolve_right (by rintro ⟨k', h, _⟩; omega)
  | k + 1, hl => by
    have ih := par_ents hk hi hB hp k (by omega)
    rw [take_snocD (by omega), judM_snoc, entsTo]
    have hb := hB _ (mem_getD (show k < (ms.getD i default).ents.length by omega))
    refine (Par.step hk ih (b := ((ms.getD i default).ents.getD k default).body.toNat) (by omega) (codeAt (scoM (ms.getD i default) ((ms.getD i default).ents.getD k default)) ns) (-1, (i : Int), (k : Int)) fun j hj => ?_).mono fun j h => ?_
    · unfold codeAt codeN
      rw [codeS_mon, if_neg (by show ¬ (0 : Int) ≤ -1; omega)]
      rfl
    · rcases h with h | ⟨k', hk', h⟩
      · exact .inl (.inl h)
      · by_cases e : k' = k
        · subst e; exact .inr h
        · exact .inl (.inr ⟨k', by omega, h⟩)
theorem par_mons {ns : List Nd} {ms : List Mo} {ps : List Pr} (hk : KidsLow ns) (hB : ∀ m ∈ ms, ∀ e ∈ m.ents, 0 ≤ e.body ∧ e.body < (ns.length : Int)) :
    ∀ i, i ≤ ms.length → Par ns.length (codeN ns ms ps) (fun j => ∃ i' < i, ∃ k < (ms.getD i' default).ents.length, (undL ns ns.length ((ms.getD i' default).ents.getD k default).body.toNat).getD j false = true) (codM ns (List.replicate ns.length 0) (ms.take i)) (monsTo ns ns.length ms i)
  | 0, _ => ⟨by rw [List.take_zero]; exact List.length_replicate, by rw [monsTo, List.length_replicate], fun j hj ⟨i', h, _⟩ => absurd h (Nat.not_lt_zero _)⟩
  | i + 1, hl => by
    have ih := par_mons (ps := ps) hk hB i (by omega)
    rw [take_snocD (by omega), codM_snoc, monsTo]
    have hm := mem_getD (show i < ms.length by omega)
    have h1 := par_ents (ps := ps) hk (show i < ms.length by omega) (hB _ hm) ih (ms.getD i default).ents.length (Nat.le_refl _)
    rw [List.take_length] at h1
    refine h1.mono fun j h => ?_
    obtain ⟨i', hi', k, hk', h⟩ := h
    by_cases e : i' = i
    · subst e; exact .inr ⟨k, hk', h⟩
    · exact .inl ⟨i', by omega, k, hk', h⟩
theorem par_pros {ns : List Nd} {ms : List Mo} {ps : List Pr} (hk : KidsLow ns) (hB : ∀ m ∈ ms, ∀ e ∈ m.ents, 0 ≤ e.body ∧ e.body < (ns.length : Int)) (hP : ∀ p ∈ ps, 0 ≤ p.body ∧ p.body < (ns.length : Int)) (hU : ∀ p ∈ ps, useB ms p = true) :
    ∀ i, i ≤ ps.length → Par ns.length (codeN ns ms ps) (fun j => (∃ i' < ms.length, ∃ k < (ms.getD i' default).ents.length, (undL ns ns.length ((ms.getD i' default).ents.getD k default).body.toNat).getD j false = true) ∨ ∃ i' < i, (undL ns ns.length (ps.getD i' default).body.toNat).getD j false = true) (codP ns ms (codM ns (List.replicate ns.length 0) ms) (ps.take i)) (prosTo ns ns.length ms ps i)
  | 0, _ => by
    have h := par_mons (ps := ps) hk hB ms.length (Nat.le_refl _)
    rw [List.take_length] at h
    rw [prosTo]
    exact h.mono fun j h => h.resolve_right (by rintro ⟨k', h, _⟩; omega)
  | i + 1, hl => by
    have ih := par_pros hk hB hP hU i (by omega)
    rw [take_snocD (by omega), codP_snoc, prosTo]
    have hm := mem_getD (show i < ps.length by omega)
    have hb := hP _ hm
    refine (Par.step hk ih (b := (ps.getD i default).body.toNat) (by omega) (codeAt (scoP ms (ps.getD i default)) ns) ((i : Int), -1, -1) fun j hj => ?_).mono fun j h => ?_
    · unfold codeAt codeN
      rw [codeS_pro (hU _ hm), if_pos (by show (0 : Int) ≤ (i : Int); omega)]
      rfl
    · rcases h with h | ⟨i', hi', h⟩
      · exact .inl (.inl h)
      · by_cases e : i' = i
        · subst e; exact .inr h
        · exact .inl (.inr ⟨i', by omega, h⟩)
theorem scope_eq (x : Pg) : specScope x = implScope x := by
  have hc : (specProgB x = false ∨ namB x.mons x.pros = false) ↔ (implProgB x = false ∨ namI x.mons x.pros = false ∨ usesB x.mons x.pros = false) := by
    rw [prog_eq, namB_turn]
    cases implProgB x <;> cases namI x.mons x.pros <;> cases usesB x.mons x.pros <;> decide
  unfold specScope implScope
  by_cases h : specProgB x = false ∨ namB x.mons x.pros = false
  · rw [if_pos h, if_pos (hc.1 h)]
  · rw [if_neg h, if_neg (fun q => h (hc.2 q))]
    have h1 : specProgB x = true := by
      cases e : specProgB x with
      | true => rfl
      | false => exact absurd (Or.inl e) h
    have h2 : usesB x.mons x.pros = true := by
      cases e : usesB x.mons x.pros with
      | true => rfl
      | false => exact absurd (hc.2 (Or.inr (Or.inr e))) h
    have hb := right_bodies h1
    have hp := par_pros (right_low h1) (fun m hm e he => hb _ (mem_body hm he)) (fun p hp => hb _ (mem_bodyP hp)) (fun p hp => List.all_eq_true.1 h2 p hp) x.pros.length (Nat.le_refl _)
    rw [List.take_length] at hp
    refine congrArg firstNZ ?_
    obtain ⟨l1, l2, h3⟩ := hp
    refine List.ext_getElem (by rw [List.length_map, List.length_range, l1]) fun k hk1 hk2 => ?_
    rw [List.length_map, List.length_range] at hk1
    rw [List.getElem_map, List.getElem_range]
    have h4 := h3 k hk1 ?_
    · rw [List.getD_eq_getElem?_getD, List.getElem?_eq_getElem hk2] at h4
      exact h4.symm
    · obtain ⟨b, hb1, _, hu⟩ := under_some (right_low h1) hb (right_used h1) x.nodes.length k (by omega) hk1
      rw [bodiesL, List.mem_append] at hb1
      rcases hb1 with hb1 | hb1
      · obtain ⟨m, hm, hb1⟩ := List.mem_flatMap.1 hb1
        obtain ⟨e, he, rfl⟩ := List.mem_map.1 hb1
        obtain ⟨i, hi, rfl⟩ := getD_mem hm
        obtain ⟨k', hk', rfl⟩ := getD_mem he
        exact .inl ⟨i, hi, k', hk', hu⟩
      · obtain ⟨p, hp, rfl⟩ := List.mem_map.1 hb1
        obtain ⟨i, hi, rfl⟩ := getD_mem hp
        exact .inr ⟨i, hi, hu⟩
end Go.Proofs.YtpdpmnkonkpheaaGreat

namespace Go.Proofs.YtpdpmnkonkpheaaGreat
open Go.RowKit

theorem szPg_fit {x : Pg} (h : szPg x ≤ 1048576) : PgFit x := by
  have hi := szPg_in h
  refine ⟨hi.len, hi.nodes, hi.mons, hi.pros, szPg_kids h, szPg_bodies h, fun m hm => ?_⟩
  have h1 : szPg x = szNds x.nodes + szMos x.mons + szPrs x.pros := rfl
  have h2 : szMos x.mons = x.mons.length + (x.mons.map szMo).sum := rfl
  have h3 := le_sum szMo x.mons m hm
  have e : szMo m = m.name.size + szStrs m.vars + szStrs m.queues + szEns m.ents := rfl
  have e2 : szStrs m.vars = m.vars.length + (m.vars.map fun s => s.size).sum := rfl
  have e3 : szStrs m.queues = m.queues.length + (m.queues.map fun s => s.size).sum := rfl
  have h4 := List.length_pos_of_mem hm
  omega

end Go.Proofs.YtpdpmnkonkpheaaGreat

namespace Go.Proofs.YtpdpmnkonkpheaaGreat
open Go.RowKit Go.Maps
open Go.WideMaps (keyOf_string_mk)

/-- The bits of a name: it is used, it is called. -/
def bitsR (us cs : List ByteArray) (s : ByteArray) : Int := (if memB us s = true then 1 else 0) + (if memB cs s = true then 2 else 0)
theorem bitsR_cases (us cs : List ByteArray) (s : ByteArray) : bitsR us cs s = 0 ∨ bitsR us cs s = 1 ∨ bitsR us cs s = 2 ∨ bitsR us cs s = 3 := by
  unfold bitsR
  cases memB us s <;> cases memB cs s <;> simp
theorem rlit_ne {s t : ByteArray} (h : s ≠ t) : Lit.string s.data.toList ≠ Lit.string t.data.toList := fun e => h (ByteArray.ext (Array.toList_inj.1 (Lit.string.inj e)))
/-- A map of just these rights, in a block of its own. -/
def RtAt (w : World) (b n : Nat) (us cs : List ByteArray) : Prop :=
  ∃ D, w.ownsMap Tryz.prog 9 (plainElem (H := Unit) Tryz.prog 53) b n D ∧ ∀ s : ByteArray, D.atKey (.string s.data.toList) (.lit (.int .u8 0)) = .lit (.int .u8 (bitsR us cs s))
theorem lawR : Keyed Tryz.prog 9 := string_keyed Tryz.underlying9
theorem zeroR (w : World) : (zeroValue 53).run Tryz.prog w = .ok (.int .u8 0) w := by kernel_rfl
theorem RtAt.made (w : World) : RtAt (w.alloc (.map #[] 0)) w.heap.size 0 [] [] := ⟨_, World.ownsMap_made _ _ _ _, fun _ => rfl⟩
theorem RtAt.lt {w : World} {b n : Nat} {us cs : List ByteArray} (h : RtAt w b n us cs) : b < w.heap.size := by
  obtain ⟨D, h1, _⟩ := h
  exact h1.lt
theorem RtAt.stays {w w' : World} {b n k : Nat} {us cs : List ByteArray} (h : RtAt w b n us cs) (hb : Below k w w') (hk : b < k) : RtAt w' b n us cs := by
  obtain ⟨D, ⟨es, cl, q1, q2⟩, h2⟩ := h
  exact ⟨D, ⟨es, cl, (hb.block b hk).trans q1, q2⟩, h2⟩
theorem RtAt.mono {w : World} {b n m : Nat} {us cs : List ByteArray} (h : RtAt w b n us cs) (hn : n ≤ m) : RtAt w b m us cs := by
  obtain ⟨D, h1, h2⟩ := h
  exact ⟨D, h1.mono hn, h2⟩
set_option maxRecDepth 100000 in
theorem RtAt.look {w : World} {b n : Nat} {us cs : List ByteArray} (h : RtAt w b n us cs) {s : ByteArray} (hs : s.size ≤ 1048576) : (Instr.lookup 51 (.map (some b)) (.string s) false).run Tryz.prog w = .ok (.int .u8 (bitsR us cs s)) w := by
  obtain ⟨D, h1, h2⟩ := h
  obtain ⟨c, hrun, hat, hwc⟩ := h1.lookup_int lawR Tryz.underlying51 Tryz.underlying53 (zeroR w) (keyOf_string_mk Tryz.underlying9 (s := s) (by unfold maxLen; omega))
  have e := h2 s
  rw [hat] at e
  injection e with e
  injection e with _ e
  rw [hrun, e]
theorem memB_snoc (us : List ByteArray) (t s : ByteArray) : memB (us ++ [t]) s = (memB us s || decide (t = s)) := by simp [memB]
/-- A name more that is used. -/
theorem RtAt.use {w : World} {b n : Nat} {us cs : List ByteArray} (h : RtAt w b n us cs) {t : ByteArray} (ht : t.size ≤ 1048576) (hn : n ≤ 4194304) {c : Int} (hc : c = bitsR (us ++ [t]) cs t) :
    ∃ w', (Instr.mapUpdate 51 (.map (some b)) (.string t) (.int .u8 c)).run Tryz.prog w = .ok () w' ∧ RtAt w' b (n + 1) (us ++ [t]) cs ∧ w.grownBy w' (some b) := by
  obtain ⟨D, h1, h2⟩ := h
  have hwf : (Lit.int .u8 c).wf = true := by rw [hc]; rcases bitsR_cases (us ++ [t]) cs t with e | e | e | e <;> rw [e] <;> rfl
  obtain ⟨w', r1, r2, r3⟩ := h1.update lawR Tryz.underlying51 (by unfold maxLen; omega) (keyOf_string_mk Tryz.underlying9 (s := t) (by unfold maxLen; omega)) (plainElem_int Tryz.underlying53 hwf)
  refine ⟨w', r1, ⟨_, r2, fun s => ?_⟩, r3⟩
  by_cases e : s = t
  · subst e
    rw [atKey_put_same h1.isMap (show WideAt.IsKeyLit (.string s.data.toList) from trivial), hc]
  · rw [atKey_put_other (rlit_ne e), h2 s]
    unfold bitsR
    rw [memB_snoc, decide_eq_false (fun q => e q.symm), Bool.or_false]
/-- A name more that is called. -/
theorem RtAt.call {w : World} {b n : Nat} {us cs : List ByteArray} (h : RtAt w b n us cs) {t : ByteArray} (ht : t.size ≤ 1048576) (hn : n ≤ 4194304) {c : Int} (hc : c = bitsR us (cs ++ [t]) t) :
    ∃ w', (Instr.mapUpdate 51 (.map (some b)) (.string t) (.int .u8 c)).run Tryz.prog w = .ok () w' ∧ RtAt w' b (n + 1) us (cs ++ [t]) ∧ w.grownBy w' (some b) := by
  obtain ⟨D, h1, h2⟩ := h
  have hwf : (Lit.int .u8 c).wf = true := by rw [hc]; rcases bitsR_cases us (cs ++ [t]) t with e | e | e | e <;> rw [e] <;> rfl
  obtain ⟨w', r1, r2, r3⟩ := h1.update lawR Tryz.underlying51 (by unfold maxLen; omega) (keyOf_string_mk Tryz.underlying9 (s := t) (by unfold maxLen; omega)) (plainElem_int Tryz.underlying53 hwf)
  refine ⟨w', r1, ⟨_, r2, fun s => ?_⟩, r3⟩
  by_cases e : s = t
  · subst e
    rw [atKey_put_same h1.isMap (show WideAt.IsKeyLit (.string s.data.toList) from trivial), hc]
  · rw [atKey_put_other (rlit_ne e), h2 s]
    unfold bitsR
    rw [memB_snoc, decide_eq_false (fun q => e q.symm), Bool.or_false]

/-- Has it all these bits? -/
def hasR (c b : Int) : Bool := if b = 1 then decide (c = 1 ∨ c = 3) else if b = 2 then decide (c = 2 ∨ c = 3) else decide (c = 3)
set_option maxHeartbeats 1000000 in
theorem rightHas_any (c b : Int) (w : World) (hc : c = 0 ∨ c = 1 ∨ c = 2 ∨ c = 3) (hb : b = 1 ∨ b = 2) :
    Calls Tryz.prog 43 #[.int .u8 c, .int .u8 b] w fun e w' => e = .returned (.bool (hasR c b)) ∧ w' = w := by
  rcases hc with rfl | rfl | rfl | rfl <;> rcases hb with rfl | rfl <;>
  (go_enter Tryz.func43, Tryz.ntmps43
   go_wp2
   go_ret
   exact ⟨rfl, rfl⟩)

theorem rgrown_below {B b : Nat} {w0 w w' : World} (h : Below B w0 w) (hg : w.grownBy w' (some b)) (hB : B ≤ w.heap.size) (hb : B ≤ b) : Below B w0 w' := h.grown hg hB (fun j hj => by cases hj; exact hb)
/-- How things stand while what is used is entered. -/
def RtU (w : World) (b : Nat) (xs : List ByteArray) (iv : Value) (wr : World) : Prop := ∃ i : Nat, i ≤ xs.length ∧ iv = .int .i64 i ∧ Hid (RtAt wr b i (xs.take i) []) ∧ Hid (Below w.heap.size w wr)

set_option maxRecDepth 100000 in
set_option maxHeartbeats 4000000 in
theorem rightsUse_any (nv mv pv uv vv : Value) (nm : ByteArray) (bd : Int) (xs : List ByteArray) (w : World) (hu : StrsAt w uv xs) (hl : xs.length ≤ 1048576) (hs : ∀ x ∈ xs, x.size ≤ 1048576) :
    Calls Tryz.prog 19 #[.agg #[nv, mv, pv], .agg #[.string nm, uv, vv, .int .i64 bd], .int .u8 1] w fun e w' => ∃ b n, e = .returned (.map (some b)) ∧ RtAt w' b n xs [] ∧ Below w.heap.size w w' := by
  have hmm := @run_makeMap Tryz.prog
  have CH1 : ∀ w, Hid (Calls Tryz.prog 43 #[.int .u8 1, .int .u8 1] w fun e w' => e = .returned (.bool true) ∧ w' = w) := fun w => hide (rightHas_any 1 1 w (.inr (.inl rfl)) (.inl rfl))
  have CH2 : ∀ w, Hid (Calls Tryz.prog 43 #[.int .u8 1, .int .u8 2] w fun e w' => e = .returned (.bool false) ∧ w' = w) := fun w => hide (rightHas_any 1 2 w (.inr (.inl rfl)) (.inr rfl))
  have H := hide hu
  obtain ⟨ao, c, rfl, _⟩ := hu
  obtain ⟨n, en⟩ : ∃ n, xs.length = n := ⟨_, rfl⟩
  have EN := hide en
  have HS := hide hs
  rw [en] at H hl ⊢
  clear en hs
  go_enter Tryz.func19, Tryz.ntmps19
  go_wp2_with fail
  obtain ⟨W, hW⟩ : ∃ W, ((w.alloc (.cells #[nv, mv, pv] 33)).alloc (.cells #[.string nm, .slice ao n c, vv, .int .i64 bd] 49)).alloc (.map #[] 0) = W := ⟨_, rfl⟩
  have hb1 : Below w.heap.size w (w.alloc (.cells #[nv, mv, pv] 33)) := (Below.refl _ _).alloc (Nat.le_refl _) _
  have hb2 := hb1.alloc hb1.size (.cells #[.string nm, .slice ao n c, vv, .int .i64 bd] 49)
  have HB0 : Hid (Below w.heap.size w W) := by rw [← hW]; exact hb2.alloc hb2.size _
  have H0 : Hid (RtAt W (w.heap.size + 1 + 1) 0 [] []) := by
    rw [← hW]
    have h := RtAt.made ((w.alloc (.cells #[nv, mv, pv] 33)).alloc (.cells #[.string nm, .slice ao n c, vv, .int .i64 bd] 49))
    simp at h
    exact hide h
  have d1 : W.cell? ⟨w.heap.size + 1, 1, none⟩ = some (.slice ao n c) := by
    rw [← hW]
    have h := Lib.cell_of_heap ((Box.made (w.alloc (.cells #[nv, mv, pv] 33)) #[.string nm, .slice ao n c, vv, .int .i64 bd] 49).stays ((Below.refl _ _).alloc (Nat.le_refl _) (.map #[] 0))) 1
    simp at h
    exact h
  rw [hW]
  clear hW hb1 hb2
  refine (unhide (CH1 _)).mono ?_
  rintro e z ⟨rfl, rfl⟩
  go_wp2
  go_loopw [18] (fun iv wr => RtU w (w.heap.size + 1 + 1) xs iv wr) (fun iv _ => n - (intOf iv).toNat)
  case atStart => exact ⟨0, by omega, rfl, H0.out, HB0.out⟩
  case round =>
    clear H0 HB0 d1
    obtain ⟨i, hi, rfl, HM, HB⟩ := hrel
    rw [EN.out] at hi
    by_cases hlt : i < n
    · have hlt' : (i : Int) < (n : Int) := by omega
      have hi0 : (0 : Int) ≤ (i : Int) := by omega
      have hix : i < xs.length := by rw [EN.out]; exact hlt
      obtain ⟨ao', c', e1, hc1⟩ := H.out.stays HB.out
      injection e1 with e2 e3 e4
      subst e2
      obtain ⟨a, rfl, _, hx⟩ := hc1 i hix
      have HT : Hid (xs.take (i + 1) = xs.take i ++ [xs[i]]) := List.take_succ_eq_append_getElem hix
      have hsx := HS.out _ (List.getElem_mem hix)
      obtain ⟨x, ex⟩ : ∃ x, xs[i] = x := ⟨_, rfl⟩
      rw [ex] at hx HT hsx
      clear e3 e4 ex hc1
      have hL := HM.out.look hsx
      obtain ⟨w5, hU, hrt5, hg5⟩ := HM.out.use hsx (by omega) (c := 1) (by unfold bitsR; rw [memB_snoc, decide_eq_true rfl]; simp [memB])
      have HM5 := hide hrt5
      have HB5 := hide (rgrown_below HB.out hg5 HB.out.size (by omega))
      clear hrt5 hg5
      have hk : bitsR (xs.take i) [] x = 0 ∨ bitsR (xs.take i) [] x = 1 := by unfold bitsR; cases memB (xs.take i) x <;> simp [memB]
      obtain ⟨k, ek⟩ : ∃ k, bitsR (xs.take i) [] x = k := ⟨_, rfl⟩
      rw [ek] at hk hL
      clear ek
      have hor0 : bits BinOp.or IntKind.u8 0 1 = 1 := by kernel_rfl
      have hor1 : bits BinOp.or IntKind.u8 1 1 = 1 := by kernel_rfl
      rcases hk with rfl | rfl
      all_goals go_wp2
      all_goals go_roundw
      case rel => exact ⟨i + 1, by rw [EN.out]; omega, by go_num, by rw [HT.out]; exact HM5.out, HB5.out⟩
      case measure => simp [intOf]; omega
      case rel => exact ⟨i + 1, by rw [EN.out]; omega, by go_num, by rw [HT.out]; exact HM5.out, HB5.out⟩
      case measure => simp [intOf]; omega
    · have hlt' : ¬ (i : Int) < (n : Int) := by omega
      have HF : Hid (RtAt wr (w.heap.size + 1 + 1) n xs []) := by
        have h := HM.out
        rw [List.take_of_length_le (by rw [EN.out]; omega)] at h
        exact h.mono (by omega)
      go_wp2_with (go_at_call 43; refine (unhide (CH2 _)).mono ?_; rintro e z ⟨rfl, rfl⟩)
      go_ret
      exact ⟨_, _, rfl, HF.out, HB.out⟩
end Go.Proofs.YtpdpmnkonkpheaaGreat

/-
  Pure: both sides find the same to be wrong with the names of a program.
-/
import Derived.Test.YtenhmecbebibkaaGreatImvL
import Derived.Test.YtenhmecbebibkaaGreatImpU
namespace Go.Proofs.YtenhmecbebibkaaGreat

theorem codeS_mon (m : Mo) (e : En) (x : Nd) : codeS (scoM m e) x.kind x.name x.more x.into = codeM m.queues (e.param :: resultN :: m.vars) x := by
  have hm : memB ((resultN :: m.vars) ++ [e.param]) x.name = memB (e.param :: resultN :: m.vars) x.name := memB_congr (by simp [or_comm, or_left_comm])
  unfold codeS codeM varS readS callS queueS scoM
  dsimp only
  rw [hm]
  by_cases h1 : x.kind = 2 ∨ x.kind = 11
  · rw [if_pos h1, if_neg (show ¬ (x.kind = 14 ∨ x.kind = 16) by omega), if_neg (show ¬ (x.kind = 17 ∨ x.kind = 18) by omega), if_pos h1]
  · rw [if_neg h1]
    by_cases h2 : x.kind = 16
    · rw [if_pos h2, if_pos (Or.inr h2), if_pos rfl]
    · rw [if_neg h2]
      by_cases h3 : x.kind = 14
      · rw [if_pos h3, if_pos (Or.inl h3), if_pos rfl]
      · rw [if_neg h3, if_neg (show ¬ (x.kind = 14 ∨ x.kind = 16) by omega)]
        by_cases h4 : x.kind = 17 ∨ x.kind = 18
        · rw [if_pos h4, if_pos h4, if_pos rfl]
        · rw [if_neg h4, if_neg h4, if_neg h1]
theorem any_names (s : ByteArray) : ∀ xs : List En, memB (xs.map En.name) s = xs.any (entN s)
  | [] => rfl
  | x :: xs => by
    show (decide (x.name = s) || memB (xs.map En.name) s) = (decide (x.name = s) || xs.any (entN s))
    rw [any_names s xs]
theorem first_neg {α : Type} {f : α → Bool} {xs : List α} : firstAt f xs < 0 ↔ xs.any f = false := by
  constructor
  · intro h
    rw [List.any_eq_false]
    intro x hx hf
    obtain ⟨i, hi, rfl⟩ := List.getElem_of_mem hx
    have h1 : xs.findIdx? f ≠ none := fun e => by
      have := List.findIdx?_eq_none_iff.1 e _ (List.getElem_mem hi)
      rw [hf] at this
      cases this
    unfold firstAt at h
    split at h
    · omega
    · rename_i e
      exact h1 e
  · intro h
    have h2 := List.any_eq_false.1 h
    rw [first_none fun j hj => by
      have := h2 _ (List.getElem_mem hj)
      simpa using this]
    omega
theorem ents_neg {ms : List Mo} {s t : ByteArray} (h : 0 ≤ firstAt (monN s) ms) : entAt ms (firstAt (monN s) ms) t < 0 ↔ memB (entsOf ms s) t = false := by
  have hl := (first_le (monN s) ms).2
  unfold entsOf
  rw [any_names, entAt, if_pos ⟨h, hl⟩]
  exact first_neg
theorem codeS_pro {ms : List Mo} {p : Pr} (hu : useB ms p = true) (x : Nd) : codeS (scoP ms p) x.kind x.name x.more x.into = codeP ms p.uses p.vars x := by
  have hc : (if memB (if memB p.uses x.name = true then entsOf ms x.name else []) x.more = true then (0 : Int) else 4) = (if memB p.uses x.name = false ∨ entAt ms (firstAt (monN x.name) ms) x.more < 0 then 4 else 0) := by
    by_cases h1 : memB p.uses x.name = true
    · have h2 : 0 ≤ firstAt (monN x.name) ms := by
        have h := List.all_eq_true.1 hu x.name (memB_iff.1 h1)
        exact of_decide_eq_true h
      rw [if_pos h1]
      cases h3 : memB (entsOf ms x.name) x.more with
      | true =>
        rw [if_pos rfl, if_neg]
        rintro (h4 | h4)
        · rw [h1] at h4; cases h4
        · rw [(ents_neg h2).1 h4] at h3; cases h3
      | false =>
        rw [if_neg (by decide), if_pos (Or.inr ((ents_neg h2).2 h3))]
    · have h2 : memB p.uses x.name = false := by simpa using h1
      rw [if_neg h1, if_pos (Or.inl h2)]
      rfl
  unfold codeS codeP varS readS callS queueS scoP
  dsimp only
  rw [hc]
  by_cases h1 : x.kind = 2 ∨ x.kind = 11
  · rw [if_pos h1, if_neg (show ¬ x.kind = 14 by omega), if_pos (Or.inr h1)]
  · rw [if_neg h1]
    by_cases h2 : x.kind = 16
    · rw [if_pos h2, if_neg (by decide), if_neg (show ¬ x.kind = 14 by omega), if_pos (Or.inl h2)]
      rfl
    · rw [if_neg h2]
      by_cases h3 : x.kind = 14
      · rw [if_pos h3, if_pos h3, if_neg (by decide)]
      · rw [if_neg h3, if_neg h3, if_neg (show ¬ (x.kind = 16 ∨ x.kind = 2 ∨ x.kind = 11) by omega)]
        by_cases h4 : x.kind = 17 ∨ x.kind = 18
        · rw [if_pos h4, if_pos h4, if_neg (by decide)]
        · rw [if_neg h4, if_neg h4]
theorem getD_setL {cs : List Int} {i j : Nat} {y : Int} : (cs.set i y).getD j 0 = if j = i ∧ j < cs.length then y else cs.getD j 0 := by
  by_cases e : i = j
  · subst e
    by_cases h : i < cs.length
    · rw [if_pos ⟨rfl, h⟩, List.getD_eq_getElem?_getD, List.getElem?_set_self h]
      rfl
    · rw [if_neg (by omega), List.getD_eq_getElem?_getD, List.getD_eq_getElem?_getD, List.getElem?_eq_none (by rw [List.length_set]; omega), List.getElem?_eq_none (by omega)]
  · rw [if_neg (by omega), List.getD_eq_getElem?_getD, List.getElem?_set_ne e, ← List.getD_eq_getElem?_getD]
theorem putAll_at (f : Nat → Int) (u : List Bool) (cs : List Int) {j : Nat} (hj : j < cs.length) : ∀ i, (putAll f cs (plTo u i)).getD j 0 = if j < i ∧ u.getD j false = true then f j else cs.getD j 0
  | 0 => by
    rw [if_neg (by omega)]
    rfl
  | i + 1 => by
    have ih := putAll_at f u cs hj i
    cases hu : u.getD i false with
    | true =>
      rw [plTo_yes hu, putAll_snoc, Int.toNat_natCast, getD_setL, putAll_len, ih]
      by_cases e : j = i
      · subst e
        rw [if_pos ⟨rfl, hj⟩, if_pos ⟨by omega, hu⟩]
      · rw [if_neg (fun h => e h.1)]
        have : (j < i ∧ u.getD j false = true) ↔ (j < i + 1 ∧ u.getD j false = true) := ⟨fun h => ⟨by omega, h.2⟩, fun h => ⟨by omega, h.2⟩⟩
        simp only [this]
    | false =>
      rw [plTo_no hu, ih]
      have : (j < i ∧ u.getD j false = true) ↔ (j < i + 1 ∧ u.getD j false = true) := by
        constructor
        · exact fun h => ⟨by omega, h.2⟩
        · intro h
          refine ⟨?_, h.2⟩
          by_cases e : j = i
          · subst e; rw [hu] at h; cases h.2
          · omega
      simp only [this]
theorem markK_short (ks : List Int) : ∀ (u v : List Bool) (i : Nat), u.length ≤ v.length → i < u.length → (∀ j < u.length, u.getD j false = v.getD j false) → (markK u ks).getD i false = (markK v ks).getD i false := by
  induction ks with
  | nil => exact fun u v i _ hi h => h i hi
  | cons y ks ih =>
    intro u v i hl hi h
    show (markK (u.set y.toNat true) ks).getD i false = (markK (v.set y.toNat true) ks).getD i false
    refine ih _ _ i (by rw [List.length_set, List.length_set]; exact hl) (by rw [List.length_set]; exact hi) fun j hj => ?_
    rw [List.length_set] at hj
    by_cases e : y.toNat = j
    · subst e
      rw [List.getD_eq_getElem?_getD, List.getElem?_set_self hj, List.getD_eq_getElem?_getD, List.getElem?_set_self (by omega)]
    · rw [List.getD_eq_getElem?_getD, List.getElem?_set_ne e, List.getD_eq_getElem?_getD, List.getElem?_set_ne e, ← List.getD_eq_getElem?_getD, ← List.getD_eq_getElem?_getD]
      exact h j hj
theorem undF_short (ns : List Nd) : ∀ (m : Nat) (u v : List Bool), m ≤ u.length → u.length ≤ v.length → (∀ j < u.length, u.getD j false = v.getD j false) → ∀ i < u.length, (undF ns u m).getD i false = (undF ns v m).getD i false
  | 0, _, _, _, _, h => h
  | m + 1, u, v, hm, hl, h => by
    have hs : ∀ j < u.length, (undS ns u m).getD j false = (undS ns v m).getD j false := fun j hj => by
      unfold undS
      rw [h m (by omega)]
      split
      · exact markK_short _ u v j hl hj h
      · exact h j hj
    intro i hi
    rw [undF, undF]
    exact undF_short ns m _ _ (by rw [undS_len]; omega) (by rw [undS_len, undS_len]; exact hl) (by rw [undS_len]; exact hs) i (by rw [undS_len]; exact hi)
theorem undI_at (ns : List Nd) {n k j : Nat} (hk : k < n) (hj : j < k + 1) : (undI ns k).getD j false = (undL ns n k).getD j false := by
  unfold undI undL
  refine undF_short ns (k + 1) _ _ (by simp) (by simp; omega) (fun i hi => ?_) j (by simp; omega)
  simp only [List.length_set, List.length_replicate] at hi
  by_cases e : k = i
  · subst e
    rw [List.getD_eq_getElem?_getD, List.getElem?_set_self (by simp), List.getD_eq_getElem?_getD, List.getElem?_set_self (by simpa using hk)]
  · rw [List.getD_eq_getElem?_getD, List.getElem?_set_ne e, List.getD_eq_getElem?_getD, List.getElem?_set_ne e, List.getElem?_replicate_of_lt hi, List.getElem?_replicate_of_lt (by omega)]
theorem undL_high {ns : List Nd} (hk : KidsLow ns) {n k j : Nat} (hj : k < j) : (undL ns n k).getD j false = false := by
  unfold undL
  rw [undF_high hk _ _ _ (by omega), List.getD_eq_getElem?_getD, List.getElem?_set_ne (by omega), List.getElem?_replicate]
  split <;> rfl
/-- A body's codes, by its marks among all nodes. -/
theorem put_body {ns : List Nd} (hk : KidsLow ns) (f : Nat → Int) (cs : List Int) {b j : Nat} (hl : cs.length = ns.length) (hb : b < ns.length) (hj : j < ns.length) :
    (putAll f cs (plTo (undI ns b) (b + 1))).getD j 0 = if (undL ns ns.length b).getD j false = true then f j else cs.getD j 0 := by
  rw [putAll_at f _ cs (by omega)]
  by_cases h : j < b + 1
  · rw [undI_at ns hb h]
    simp only [h, true_and]
  · rw [if_neg (by omega), undL_high hk (by omega), if_neg (by decide)]
/-- Codes and homes go together, at the places that were touched. -/
def Par (n : Nat) (cn : Nat → Hm → Int) (T : Nat → Prop) (cs : List Int) (hs : List Hm) : Prop := cs.length = n ∧ hs.length = n ∧ ∀ j < n, T j → cs.getD j 0 = cn j (hs.getD j (0, 0, 0))
theorem Par.step {ns : List Nd} {cn : Nat → Hm → Int} {T : Nat → Prop} {cs : List Int} {hs : List Hm} (hk : KidsLow ns) (hp : Par ns.length cn T cs hs) {b : Nat} (hb : b < ns.length) (f : Nat → Int) (h : Hm) (hf : ∀ j < ns.length, f j = cn j h) :
    Par ns.length cn (fun j => T j ∨ (undL ns ns.length b).getD j false = true) (putAll f cs (plTo (undI ns b) (b + 1))) (setTo hs (undL ns ns.length b) h ns.length) := by
  obtain ⟨h1, h2, h3⟩ := hp
  refine ⟨by rw [putAll_len]; exact h1, by rw [setTo_len]; exact h2, fun j hj ht => ?_⟩
  rw [put_body hk f cs h1 hb hj, setTo_at hs _ h j (by omega)]
  by_cases hu : (undL ns ns.length b).getD j false = true
  · rw [if_pos hu, if_pos ⟨hj, hu⟩]
    exact hf j hj
  · rw [if_neg hu, if_neg (fun q => hu q.2)]
    exact h3 j hj (ht.resolve_right hu)
theorem Par.mono {n : Nat} {cn : Nat → Hm → Int} {T T' : Nat → Prop} {cs : List Int} {hs : List Hm} (hp : Par n cn T cs hs) (h : ∀ j, T' j → T j) : Par n cn T' cs hs := ⟨hp.1, hp.2.1, fun j hj ht => hp.2.2 j hj (h j ht)⟩
theorem take_snocD {α : Type} [Inhabited α] {xs : List α} {i : Nat} (h : i < xs.length) : xs.take (i + 1) = xs.take i ++ [xs.getD i default] := by
  rw [List.take_succ_eq_append_getElem h, List.getD_eq_getElem?_getD, List.getElem?_eq_getElem h]
  rfl
theorem mem_getD {α : Type} [Inhabited α] {xs : List α} {i : Nat} (h : i < xs.length) : xs.getD i default ∈ xs := by
  rw [List.getD_eq_getElem?_getD, List.getElem?_eq_getElem h]
  exact List.getElem_mem h

theorem par_ents {ns : List Nd} {ms : List Mo} {ps : List Pr} (hk : KidsLow ns) {i : Nat} (hi : i < ms.length) (hB : ∀ e ∈ (ms.getD i default).ents, 0 ≤ e.body ∧ e.body < (ns.length : Int)) {T : Nat → Prop} {cs : List Int} {hs : List Hm} (hp : Par ns.length (codeN ns ms ps) T cs hs) :
    ∀ k, k ≤ (ms.getD i default).ents.length → Par ns.length (codeN ns ms ps) (fun j => T j ∨ ∃ k' < k, (undL ns ns.length ((ms.getD i default).ents.getD k' default).body.toNat).getD j false = true) (judM ns (ms.getD i default) cs ((ms.getD i default).ents.take k)) (entsTo ns ns.length i (ms.getD i default).ents hs k)
  | 0, _ => hp.mono fun j h => h.resolve_right (by rintro ⟨k', h, _⟩; omega)
  | k + 1, hl => by
    have ih := par_ents hk hi hB hp k (by omega)
    rw [take_snocD (by omega), judM_snoc, entsTo]
    have hb := hB _ (mem_getD (show k < (ms.getD i default).ents.length by omega))
    refine (Par.step hk ih (b := ((ms.getD i default).ents.getD k default).body.toNat) (by omega) (codeAt (scoM (ms.getD i default) ((ms.getD i default).ents.getD k default)) ns) (-1, (i : Int), (k : Int)) fun j hj => ?_).mono fun j h => ?_
    · unfold codeAt codeN
      rw [codeS_mon, if_neg (by show ¬ (0 : Int) ≤ -1; omega)]
      rfl
    · rcases h with h | ⟨k', hk', h⟩
      · exact .inl (.inl h)
      · by_cases e : k' = k
        · subst e; exact .inr h
        · exact .inl (.inr ⟨k', by omega, h⟩)
theorem par_mons {ns : List Nd} {ms : List Mo} {ps : List Pr} (hk : KidsLow ns) (hB : ∀ m ∈ ms, ∀ e ∈ m.ents, 0 ≤ e.body ∧ e.body < (ns.length : Int)) :
    ∀ i, i ≤ ms.length → Par ns.length (codeN ns ms ps) (fun j => ∃ i' < i, ∃ k < (ms.getD i' default).ents.length, (undL ns ns.length ((ms.getD i' default).ents.getD k default).body.toNat).getD j false = true) (codM ns (List.replicate ns.length 0) (ms.take i)) (monsTo ns ns.length ms i)
  | 0, _ => ⟨by rw [List.take_zero]; exact List.length_replicate, by rw [monsTo, List.length_replicate], fun j hj ⟨i', h, _⟩ => absurd h (Nat.not_lt_zero _)⟩
  | i + 1, hl => by
    have ih := par_mons (ps := ps) hk hB i (by omega)
    rw [take_snocD (by omega), codM_snoc, monsTo]
    have hm := mem_getD (show i < ms.length by omega)
    have h1 := par_ents (ps := ps) hk (show i < ms.length by omega) (hB _ hm) ih (ms.getD i default).ents.length (Nat.le_refl _)
    rw [List.take_length] at h1
    refine h1.mono fun j h => ?_
    obtain ⟨i', hi', k, hk', h⟩ := h
    by_cases e : i' = i
    · subst e; exact .inr ⟨k, hk', h⟩
    · exact .inl ⟨i', by omega, k, hk', h⟩
theorem par_pros {ns : List Nd} {ms : List Mo} {ps : List Pr} (hk : KidsLow ns) (hB : ∀ m ∈ ms, ∀ e ∈ m.ents, 0 ≤ e.body ∧ e.body < (ns.length : Int)) (hP : ∀ p ∈ ps, 0 ≤ p.body ∧ p.body < (ns.length : Int)) (hU : ∀ p ∈ ps, useB ms p = true) :
    ∀ i, i ≤ ps.length → Par ns.length (codeN ns ms ps) (fun j => (∃ i' < ms.length, ∃ k < (ms.getD i' default).ents.length, (undL ns ns.length ((ms.getD i' default).ents.getD k default).body.toNat).getD j false = true) ∨ ∃ i' < i, (undL ns ns.length (ps.getD i' default).body.toNat).getD j false = true) (codP ns ms (codM ns (List.replicate ns.length 0) ms) (ps.take i)) (prosTo ns ns.length ms ps i)
  | 0, _ => by
    have h := par_mons (ps := ps) hk hB ms.length (Nat.le_refl _)
    rw [List.take_length] at h
    rw [prosTo]
    exact h.mono fun j h => h.resolve_right (by rintro ⟨k', h, _⟩; omega)
  | i + 1, hl => by
    have ih := par_pros hk hB hP hU i (by omega)
    rw [take_snocD (by omega), codP_snoc, prosTo]
    have hm := mem_getD (show i < ps.length by omega)
    have hb := hP _ hm
    refine (Par.step hk ih (b := (ps.getD i default).body.toNat) (by omega) (codeAt (scoP ms (ps.getD i default)) ns) ((i : Int), -1, -1) fun j hj => ?_).mono fun j h => ?_
    · unfold codeAt codeN
      rw [codeS_pro (hU _ hm), if_pos (by show (0 : Int) ≤ (i : Int); omega)]
      rfl
    · rcases h with h | ⟨i', hi', h⟩
      · exact .inl (.inl h)
      · by_cases e : i' = i
        · subst e; exact .inr h
        · exact .inl (.inr ⟨i', by omega, h⟩)
theorem scope_eq (x : Pg) : specScope x = implScope x := by
  have hc : (specProgB x = false ∨ namB x.mons x.pros = false) ↔ (implProgB x = false ∨ namI x.mons x.pros = false ∨ usesB x.mons x.pros = false) := by
    rw [prog_eq, namB_turn]
    cases implProgB x <;> cases namI x.mons x.pros <;> cases usesB x.mons x.pros <;> decide
  unfold specScope implScope
  by_cases h : specProgB x = false ∨ namB x.mons x.pros = false
  · rw [if_pos h, if_pos (hc.1 h)]
  · rw [if_neg h, if_neg (fun q => h (hc.2 q))]
    have h1 : specProgB x = true := by
      cases e : specProgB x with
      | true => rfl
      | false => exact absurd (Or.inl e) h
    have h2 : usesB x.mons x.pros = true := by
      cases e : usesB x.mons x.pros with
      | true => rfl
      | false => exact absurd (hc.2 (Or.inr (Or.inr e))) h
    have hb := right_bodies h1
    have hp := par_pros (right_low h1) (fun m hm e he => hb _ (mem_body hm he)) (fun p hp => hb _ (mem_bodyP hp)) (fun p hp => List.all_eq_true.1 h2 p hp) x.pros.length (Nat.le_refl _)
    rw [List.take_length] at hp
    refine congrArg firstNZ ?_
    obtain ⟨l1, l2, h3⟩ := hp
    refine List.ext_getElem (by rw [List.length_map, List.length_range, l1]) fun k hk1 hk2 => ?_
    rw [List.length_map, List.length_range] at hk1
    rw [List.getElem_map, List.getElem_range]
    have h4 := h3 k hk1 ?_
    · rw [List.getD_eq_getElem?_getD, List.getElem?_eq_getElem hk2] at h4
      exact h4.symm
    · obtain ⟨b, hb1, _, hu⟩ := under_some (right_low h1) hb (right_used h1) x.nodes.length k (by omega) hk1
      rw [bodiesL, List.mem_append] at hb1
      rcases hb1 with hb1 | hb1
      · obtain ⟨m, hm, hb1⟩ := List.mem_flatMap.1 hb1
        obtain ⟨e, he, rfl⟩ := List.mem_map.1 hb1
        obtain ⟨i, hi, rfl⟩ := getD_mem hm
        obtain ⟨k', hk', rfl⟩ := getD_mem he
        exact .inl ⟨i, hi, k', hk', hu⟩
      · obtain ⟨p, hp, rfl⟩ := List.mem_map.1 hb1
        obtain ⟨i, hi, rfl⟩ := getD_mem hp
        exact .inr ⟨i, hi, hu⟩
end Go.Proofs.YtenhmecbebibkaaGreat

namespace Go.Proofs.YtenhmecbebibkaaGreat
open Go.RowKit

theorem szPg_fit {x : Pg} (h : szPg x ≤ 1048576) : PgFit x := by
  have hi := szPg_in h
  refine ⟨hi.len, hi.nodes, hi.mons, hi.pros, szPg_kids h, szPg_bodies h, fun m hm => ?_⟩
  have h1 : szPg x = szNds x.nodes + szMos x.mons + szPrs x.pros := rfl
  have h2 : szMos x.mons = x.mons.length + (x.mons.map szMo).sum := rfl
  have h3 := le_sum szMo x.mons m hm
  have e : szMo m = m.name.size + szStrs m.vars + szStrs m.queues + szEns m.ents := rfl
  have e2 : szStrs m.vars = m.vars.length + (m.vars.map fun s => s.size).sum := rfl
  have e3 : szStrs m.queues = m.queues.length + (m.queues.map fun s => s.size).sum := rfl
  have h4 := List.length_pos_of_mem hm
  omega

set_option maxRecDepth 100000 in
set_option maxHeartbeats 4000000 in
theorem lawScopeOf (nv mv pv : Value) (x : Pg) (w : World) (h : PgAt w nv mv pv x) (hm : PgMax x) :
    Calls Tryz.prog 3 #[.agg #[nv, mv, pv]] w fun e w' => e = .returned (.bool true) ∧ Below w.heap.size w w' := by
  have HM := hide hm
  have BA := hide (Box.made w #[nv, mv, pv] 26)
  have BB : Hid (Below w.heap.size w (w.alloc (.cells #[nv, mv, pv] 26))) := (Below.refl _ _).alloc (Nat.le_refl _) _
  have HA := hide (h.stays BB.out)
  obtain ⟨⟨a0, b0, rfl, _⟩, ⟨a1, b1, rfl, _⟩, ⟨a2, b2, rfl, _⟩⟩ := h
  clear hm
  go_enter Tryz.func3, Tryz.ntmps3
  go_wp2_with fail
  refine (szProgram_any x _ _ _ _ _ (by omega) (by omega) HA.out.nodes HA.out.mons HA.out.pros HM.out).mono ?_
  rintro e z1 ⟨r, rfl, hr, hb1⟩
  have BA1 := hide (BA.out.stays hb1)
  have BB1 := hide (BB.out.trans (hb1.mono BB.out.size))
  have HA1 := hide (HA.out.stays hb1)
  have p0 := Lib.cell_of_heap BA1.out 0
  have p1 := Lib.cell_of_heap BA1.out 1
  have p2 := Lib.cell_of_heap BA1.out 2
  simp at p0 p1 p2
  clear hb1 BA BB HA
  by_cases hr0 : r < 0
  · clear hr
    go_wp2
    go_ret
    exact ⟨rfl, BB1.out⟩
  have hsz : szPg x ≤ 1048576 := by have := (hr.resolve_left hr0).2; omega
  have hI : Hid (PgIn x) := szPg_in hsz
  have hFT : Hid (PgFit x) := szPg_fit hsz
  clear hsz
  clear hr
  go_wp2_with fail
  refine (toProgram_at HA1.out hI.out.len).mono ?_
  rintro e z2 ⟨o0, n0, c0, o1, n1, c1, o2, n2, c2, rfl, hc2, hb2⟩
  have BA2 := hide (BA1.out.stays hb2)
  have BB2 := hide (BB1.out.trans (hb2.mono BB1.out.size))
  have HA2 := hide (HA1.out.stays hb2)
  have P2 := hide hc2.at
  clear p0 p1 p2
  have p0 := Lib.cell_of_heap BA2.out 0
  have p1 := Lib.cell_of_heap BA2.out 1
  have p2 := Lib.cell_of_heap BA2.out 2
  simp at p0 p1 p2
  clear hb2 hc2 BA1 BB1 HA1
  go_wp2_with fail
  refine (specScope_any _ _ _ x _ P2.out.1.nodes P2.out.1.mons P2.out.1.pros hFT.out).mono ?_
  rintro e z3 ⟨rfl, hb3⟩
  have BA3 := hide (BA2.out.stays hb3)
  have BB3 := hide (BB2.out.trans (hb3.mono BB2.out.size))
  have HA3 := hide (HA2.out.stays hb3)
  clear p0 p1 p2
  have p0 := Lib.cell_of_heap BA3.out 0
  have p1 := Lib.cell_of_heap BA3.out 1
  have p2 := Lib.cell_of_heap BA3.out 2
  simp at p0 p1 p2
  clear hb3 BA2 BB2 HA2 P2
  go_wp2_with fail
  refine (toProgram_at HA3.out hI.out.len).mono ?_
  rintro e z4 ⟨o3, n3, c3, o4, n4, c4, o5, n5, c5, rfl, hc4, hb4⟩
  have L4 : Hid (LawB w (.slice a0 x.nodes.length b0) (.slice a1 x.mons.length b1) (.slice a2 x.pros.length b2) x z4.heap.size (.slice o3 n3 c3) (.slice o4 n4 c4) (.slice o5 n5 c5) (z4.alloc (.cells #[.slice o3 n3 c3, .slice o4 n4 c4, .slice o5 n5 c5] 33))) := by
    have hb : Below z4.heap.size z4 (z4.alloc (.cells #[.slice o3 n3 c3, .slice o4 n4 c4, .slice o5 n5 c5] 33)) := (Below.refl _ _).alloc (Nat.le_refl _) _
    have hb5 := BB3.out.trans (hb4.mono BB3.out.size)
    exact ⟨(BA3.out.stays hb4).stays hb, Box.made _ _ _, hb5.trans (hb.mono hb5.size), (HA3.out.stays hb4).stays hb, hc4.at.1.stays hb⟩
  have R4 : Hid (NdsRoom (z4.alloc (.cells #[.slice o3 n3 c3, .slice o4 n4 c4, .slice o5 n5 c5] 33)) (.slice o3 n3 c3) x.nodes.length) := hc4.at.2.stays ((Below.refl _ _).alloc (Nat.le_refl _) _)
  clear p0 p1 p2 hb4 hc4 BA3 BB3 HA3
  go_wp2_with fail
  refine (implScope_any _ _ _ x _ L4.out.own.nodes L4.out.own.mons L4.out.own.pros R4.out hFT.out).mono ?_
  rintro e z5 ⟨rfl, hb5⟩
  rw [← scope_eq]
  have L5 := hide (L4.out.stays hb5)
  clear hb5 L4 R4
  obtain ⟨g0, g1, g2, g3, g4, g5, hh⟩ := L5.out.spread
  go_wp2_with fail
  have KP : Hid (∀ z z' : World, (z.cell? ⟨w.heap.size, 0, none⟩ = some (.slice a0 x.nodes.length b0) ∧ z.cell? ⟨w.heap.size, 1, none⟩ = some (.slice a1 x.mons.length b1) ∧ z.cell? ⟨w.heap.size, 2, none⟩ = some (.slice a2 x.pros.length b2) ∧ z.cell? ⟨z4.heap.size, 0, none⟩ = some (.slice o3 n3 c3) ∧ z.cell? ⟨z4.heap.size, 1, none⟩ = some (.slice o4 n4 c4) ∧ z.cell? ⟨z4.heap.size, 2, none⟩ = some (.slice o5 n5 c5) ∧ Hid (LawB w (.slice a0 x.nodes.length b0) (.slice a1 x.mons.length b1) (.slice a2 x.pros.length b2) x z4.heap.size (.slice o3 n3 c3) (.slice o4 n4 c4) (.slice o5 n5 c5) z)) → Below z.heap.size z z' → (z'.cell? ⟨w.heap.size, 0, none⟩ = some (.slice a0 x.nodes.length b0) ∧ z'.cell? ⟨w.heap.size, 1, none⟩ = some (.slice a1 x.mons.length b1) ∧ z'.cell? ⟨w.heap.size, 2, none⟩ = some (.slice a2 x.pros.length b2) ∧ z'.cell? ⟨z4.heap.size, 0, none⟩ = some (.slice o3 n3 c3) ∧ z'.cell? ⟨z4.heap.size, 1, none⟩ = some (.slice o4 n4 c4) ∧ z'.cell? ⟨z4.heap.size, 2, none⟩ = some (.slice o5 n5 c5) ∧ Hid (LawB w (.slice a0 x.nodes.length b0) (.slice a1 x.mons.length b1) (.slice a2 x.pros.length b2) x z4.heap.size (.slice o3 n3 c3) (.slice o4 n4 c4) (.slice o5 n5 c5) z'))) := fun z z' hz hb => (hz.2.2.2.2.2.2.out.stays hb).spread
  have KD : Hid (∀ z : World, (z.cell? ⟨w.heap.size, 0, none⟩ = some (.slice a0 x.nodes.length b0) ∧ z.cell? ⟨w.heap.size, 1, none⟩ = some (.slice a1 x.mons.length b1) ∧ z.cell? ⟨w.heap.size, 2, none⟩ = some (.slice a2 x.pros.length b2) ∧ z.cell? ⟨z4.heap.size, 0, none⟩ = some (.slice o3 n3 c3) ∧ z.cell? ⟨z4.heap.size, 1, none⟩ = some (.slice o4 n4 c4) ∧ z.cell? ⟨z4.heap.size, 2, none⟩ = some (.slice o5 n5 c5) ∧ Hid (LawB w (.slice a0 x.nodes.length b0) (.slice a1 x.mons.length b1) (.slice a2 x.pros.length b2) x z4.heap.size (.slice o3 n3 c3) (.slice o4 n4 c4) (.slice o5 n5 c5) z)) → LawB w (.slice a0 x.nodes.length b0) (.slice a1 x.mons.length b1) (.slice a2 x.pros.length b2) x z4.heap.size (.slice o3 n3 c3) (.slice o4 n4 c4) (.slice o5 n5 c5) z) := fun z hz => hz.2.2.2.2.2.2.out
  have K0 := hide (L5.out.stays (Below.refl _ _).drew).spread
  go_region_held3 (fun z => z.cell? ⟨w.heap.size, 0, none⟩ = some (.slice a0 x.nodes.length b0) ∧ z.cell? ⟨w.heap.size, 1, none⟩ = some (.slice a1 x.mons.length b1) ∧ z.cell? ⟨w.heap.size, 2, none⟩ = some (.slice a2 x.pros.length b2) ∧ z.cell? ⟨z4.heap.size, 0, none⟩ = some (.slice o3 n3 c3) ∧ z.cell? ⟨z4.heap.size, 1, none⟩ = some (.slice o4 n4 c4) ∧ z.cell? ⟨z4.heap.size, 2, none⟩ = some (.slice o5 n5 c5) ∧ Hid (LawB w (.slice a0 x.nodes.length b0) (.slice a1 x.mons.length b1) (.slice a2 x.pros.length b2) x z4.heap.size (.slice o3 n3 c3) (.slice o4 n4 c4) (.slice o5 n5 c5) z)) (first | exact K0.out | exact KP.out _ _ (by assumption) hb7)
    ((first
      | (go_at_call 6; refine (toProgram_at (KD.out _ (by assumption)).arg hI.out.len).mono ?_; rintro e w7 ⟨o6, n6, c6, o7, n7, c7, o8, n8, c8, rfl, hc7, hb7⟩; have P7 := hide hc7.at; clear hc7)
      | (go_at_call 8; refine (eqProgram_at (KD.out _ (by assumption)).own P7.out.1 hI.out.len).mono ?_; rintro e w7 ⟨rfl, hb7⟩)))
  all_goals (have D := hide (KD.out _ (by assumption)))
  all_goals go_wp2
  all_goals go_ret
  all_goals exact ⟨rfl, D.out.bel⟩
end Go.Proofs.YtenhmecbebibkaaGreat

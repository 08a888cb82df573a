/-
  Gates that are drawn: right ones stay right; who comes first is let in first (pure).
-/
import Derived.Test.YtbikdpljhnhcaaaGatI
namespace Go.Proofs.Ytbikdpljhnhcaaa
open Go.RowKit

/-- A right gate of two queues. -/
structure Ok2 (g : Gt) : Prop where
  ok : gateOkB g = true
  two : g.queues.length = 2
theorem Ok2.new : Ok2 (gateNewE 2) := ⟨by decide, by decide⟩
theorem pre_nodup (g : Gt) : (preG g).Nodup := by unfold preG; split <;> simp
theorem Ok2.next {g : Gt} (h : Ok2 g) : Ok2 (nextG g) := by
  refine ⟨?_, h.two⟩
  obtain ⟨h1, h2, h3, h4, h5, h6⟩ := (gate_parts g).1 h.ok
  refine (gate_parts _).2 ?_
  obtain ⟨o, ws, qs⟩ := g
  rw [who_pre] at h6
  have h7 : (ws ++ qs.filter fun q => decide (0 ≤ q)).Nodup := by
    rw [List.append_assoc] at h6
    exact (List.nodup_append.1 h6).2.1
  cases ws with
  | nil =>
    refine ⟨by rw [inZ_yes]; simp [nextG], h2, .inr rfl, by simp [nextG], h5, ?_⟩
    rw [who_pre]
    simpa [nextG, preG] using h7
  | cons a ws =>
    have ha := inZ_yes.1 (h4 a List.mem_cons_self)
    refine ⟨by rw [inZ_yes]; show -1 ≤ a ∧ a ≤ 3; omega, h2, .inl (by show 0 ≤ a; omega), fun x hx => h4 x (List.mem_cons_of_mem _ hx), h5, ?_⟩
    rw [who_pre]
    have e : preG (nextG ⟨o, a :: ws, qs⟩) = [a] := by unfold preG; rw [if_pos]; rfl; show 0 ≤ a; omega
    rw [e]
    exact h7
theorem Ok2.leave {g : Gt} (h : Ok2 g) : Ok2 (leaveE g).1 := by
  unfold leaveE
  split
  · exact h
  · exact h.next
theorem Ok2.two' {g : Gt} (h : Ok2 g) : ∃ a b, g.queues = [a, b] := by
  obtain ⟨o, ws, qs⟩ := g
  have h2 := h.two
  match qs, h2 with
  | [a, b], _ => exact ⟨a, b, rfl⟩
theorem Ok2.arrive {g : Gt} (h : Ok2 g) (p : Int) : Ok2 (arriveE g p).1 := by
  unfold arriveE
  split
  · exact h
  · next hc =>
    have hp : inZ 0 3 p = true := by cases e : inZ 0 3 p with | true => rfl | false => exact absurd (.inr (.inl e)) hc
    have hi : isIn g p = false := by cases e : isIn g p with | false => rfl | true => exact absurd (.inr (.inr e)) hc
    obtain ⟨h1, h2, h3, h4, h5, h6⟩ := (gate_parts g).1 h.ok
    obtain ⟨a, b, hq⟩ := h.two'
    simp only [isIn, Bool.or_eq_false_iff, decide_eq_false_iff_not] at hi
    obtain ⟨⟨i1, i2⟩, i3⟩ := hi
    have hp' := inZ_yes.1 hp
    rw [who_pre] at h6
    split
    · next ho =>
      refine ⟨(gate_parts _).2 ⟨by rw [inZ_yes]; show -1 ≤ p ∧ p ≤ 3; omega, h2, .inl hp'.1, h4, h5, ?_⟩, h.two⟩
      rw [who_pre]
      have hw : g.waits = [] := by rcases h3 with h3 | h3; omega; exact h3
      have e : preG { g with owner := p } = [p] := by unfold preG; rw [if_pos]; exact hp'.1
      rw [e]
      have e0 : preG g = [] := by unfold preG; rw [if_neg]; omega
      rw [e0, hw, List.append_nil, List.nil_append] at h6
      show ([p] ++ g.waits ++ g.queues.filter _).Nodup
      rw [hw, List.append_nil]
      refine List.nodup_append.2 ⟨by simp, h6, fun x hx y hy e => ?_⟩
      rw [List.mem_singleton.1 hx] at e
      subst e
      exact i3 (List.mem_filter.1 hy).1
    · next ho =>
      refine ⟨(gate_parts _).2 ⟨h1, h2, .inl (by show 0 ≤ g.owner; omega), fun x hx => ?_, h5, ?_⟩, h.two⟩
      · rcases List.mem_append.1 hx with hx | hx
        · exact h4 x hx
        · rw [List.mem_singleton.1 hx]; exact hp
      · rw [who_pre]
        show (preG g ++ (g.waits ++ [p]) ++ g.queues.filter _).Nodup
        have e0 : preG g = [g.owner] := by unfold preG; rw [if_pos]; omega
        rw [e0] at h6 ⊢
        have n1 := List.nodup_append.1 h6
        refine List.nodup_append.2 ⟨?_, n1.2.1, fun x hx y hy e => ?_⟩
        · rw [← List.append_assoc]
          refine nodup_snoc.2 ⟨n1.1, fun hx => ?_⟩
          rcases List.mem_append.1 hx with hx | hx
          · exact i1 (List.mem_singleton.1 hx).symm
          · exact i2 hx
        · subst e
          rw [← List.append_assoc] at hx
          rcases List.mem_append.1 hx with hx | hx
          · exact n1.2.2 x hx x hy rfl
          · rw [List.mem_singleton.1 hx] at hy
            exact i3 (List.mem_filter.1 hy).1
theorem next_who {g : Gt} (h4 : ∀ x ∈ g.waits, inZ 0 3 x = true) : preG (nextG g) ++ (nextG g).waits = g.waits := by
  obtain ⟨o, ws, qs⟩ := g
  cases ws with
  | nil => simp [nextG, preG]
  | cons a ws =>
    have ha := inZ_yes.1 (h4 a List.mem_cons_self)
    have e : preG (nextG ⟨o, a :: ws, qs⟩) = [a] := by unfold preG; rw [if_pos]; rfl; show 0 ≤ a; omega
    rw [e]
    rfl
def nn (l : List Int) : List Int := l.filter fun q => decide (0 ≤ q)
theorem nn_cons_pos {a : Int} {l : List Int} (h : 0 ≤ a) : nn (a :: l) = a :: nn l := by simp [nn, h]
theorem nn_cons_neg {a : Int} {l : List Int} (h : a < 0) : nn (a :: l) = nn l := by
  unfold nn
  rw [List.filter_cons, if_neg]
  simp
  omega
theorem set_two {q : Int} {a b c : Int} (h : inZ 0 1 q = true) : (q = 0 ∧ [a, b].set q.toNat c = [c, b] ∧ [a, b].getD q.toNat (-1) = a) ∨ (q = 1 ∧ [a, b].set q.toNat c = [a, c] ∧ [a, b].getD q.toNat (-1) = b) := by
  have := inZ_yes.1 h
  have h2 : q = 0 ∨ q = 1 := by omega
  rcases h2 with rfl | rfl
  · exact .inl ⟨rfl, rfl, rfl⟩
  · exact .inr ⟨rfl, rfl, rfl⟩
theorem perm_mid (x : Int) (l m : List Int) : (l ++ x :: m).Nodup ↔ (x :: (l ++ m)).Nodup := List.perm_middle.nodup_iff
theorem Ok2.delay {g : Gt} (h : Ok2 g) (q : Int) : Ok2 (delayE g q).1 := by
  unfold delayE
  split
  · exact h
  · next hc =>
    obtain ⟨h1, h2, h3, h4, h5, h6⟩ := (gate_parts g).1 h.ok
    obtain ⟨a, b, hq⟩ := h.two'
    have hz : inZ 0 1 q = true := by
      cases e : inZ 0 1 q with
      | true => rfl
      | false => exact absurd (.inr (.inr (.inl (by rw [hq]; exact e)))) hc
    have ho : 0 ≤ g.owner := by
      by_cases e : g.owner < 0
      · exact absurd (.inr (.inl e)) hc
      · omega
    have hn : g.queues.getD q.toNat (-1) < 0 := by
      by_cases e : 0 ≤ g.queues.getD q.toNat (-1)
      · exact absurd (.inr (.inr (.inr e))) hc
      · omega
    have hoz := inZ_yes.1 h1
    have hsz : ∀ x ∈ (g.queues.set q.toNat g.owner), inZ (-1) 3 x = true := fun x hx => by
      rcases List.mem_or_eq_of_mem_set hx with hx | rfl
      · exact h5 x hx
      · exact h1
    have hown : -1 ≤ g.waits.headD (-1) ∧ g.waits.headD (-1) ≤ 3 ∧ (0 ≤ g.waits.headD (-1) ∨ g.waits.tail = []) := by
      cases hw : g.waits with
      | nil => simp
      | cons c ws =>
        have := inZ_yes.1 (h4 c (by rw [hw]; exact List.mem_cons_self))
        simp
        omega
    refine ⟨(gate_parts _).2 ⟨inZ_yes.2 ⟨hown.1, hown.2.1⟩, ?_, hown.2.2, fun x hx => h4 x (List.mem_of_mem_tail hx), hsz, ?_⟩, ?_⟩
    · show (g.queues.set _ _).length ≤ 2
      rw [List.length_set]
      exact h2
    · rw [who_pre]
      have e := next_who (g := { g with queues := g.queues.set q.toNat g.owner }) h4
      rw [e]
      show (g.waits ++ nn (g.queues.set q.toNat g.owner)).Nodup
      rw [who_pre] at h6
      have e0 : preG g = [g.owner] := by unfold preG; rw [if_pos ho]
      have h7 : (g.owner :: (g.waits ++ nn g.queues)).Nodup := by
        rw [e0] at h6
        exact h6
      rw [hq] at h7 hn ⊢
      rcases set_two (a := a) (b := b) (c := g.owner) hz with ⟨_, e1, e2⟩ | ⟨_, e1, e2⟩
      · rw [e2] at hn
        rw [e1, nn_cons_pos ho, perm_mid]
        rw [nn_cons_neg hn] at h7
        exact h7
      · rw [e2] at hn
        rw [e1]
        by_cases ha : 0 ≤ a
        · rw [nn_cons_pos ha, nn_cons_pos ho]
          rw [nn_cons_pos ha, nn_cons_neg hn] at h7
          show (g.waits ++ [a, g.owner]).Nodup
          have e3 : g.waits ++ [a, g.owner] = (g.waits ++ [a]) ++ g.owner :: [] := by simp
          rw [e3, perm_mid, List.append_nil]
          exact h7
        · rw [nn_cons_neg (by omega), nn_cons_pos ho, perm_mid]
          rw [nn_cons_neg (by omega), nn_cons_neg hn] at h7
          exact h7
    · show (g.queues.set _ _).length = 2
      rw [List.length_set]
      exact h.two
theorem Ok2.cont {g : Gt} (h : Ok2 g) (q : Int) : Ok2 (contE g q).1 := by
  unfold contE
  split
  · exact h
  · next hc =>
    split
    · exact h.next
    · next hn' =>
      obtain ⟨h1, h2, h3, h4, h5, h6⟩ := (gate_parts g).1 h.ok
      obtain ⟨a, b, hq⟩ := h.two'
      have hz : inZ 0 1 q = true := by
        cases e : inZ 0 1 q with
        | true => rfl
        | false => exact absurd (.inr (.inr (by rw [hq]; exact e))) hc
      have ho : 0 ≤ g.owner := by
        by_cases e : g.owner < 0
        · exact absurd (.inr (.inl e)) hc
        · omega
      have hn : 0 ≤ g.queues.getD q.toNat (-1) := by omega
      have hmem : g.queues.getD q.toNat (-1) ∈ g.queues := by
        rw [hq]
        rcases set_two (a := a) (b := b) (c := g.owner) hz with ⟨_, e1, e2⟩ | ⟨_, e1, e2⟩
        · rw [e2]; simp
        · rw [e2]; simp
      have hoz := inZ_yes.1 (h5 _ hmem)
      refine ⟨(gate_parts _).2 ⟨h5 _ hmem, ?_, .inl hn, h4, fun x hx => ?_, ?_⟩, ?_⟩
      · show (g.queues.set _ _).length ≤ 2
        rw [List.length_set]
        exact h2
      · rcases List.mem_or_eq_of_mem_set hx with hx | rfl
        · exact h5 x hx
        · decide
      · rw [who_pre] at h6 ⊢
        have e0 : preG g = [g.owner] := by unfold preG; rw [if_pos ho]
        have h7 : (g.waits ++ nn g.queues).Nodup := by
          rw [e0] at h6
          exact (List.nodup_cons.1 h6).2
        have e4 : preG { g with owner := g.queues.getD q.toNat (-1), queues := g.queues.set q.toNat (-1) } = [g.queues.getD q.toNat (-1)] := by unfold preG; rw [if_pos hn]
        rw [e4]
        show (g.queues.getD q.toNat (-1) :: (g.waits ++ nn (g.queues.set q.toNat (-1)))).Nodup
        rw [hq] at h7 hn ⊢
        rcases set_two (a := a) (b := b) (c := -1) hz with ⟨_, e1, e2⟩ | ⟨_, e1, e2⟩
        · rw [e2] at hn ⊢
          rw [e1, nn_cons_neg (by omega)]
          rw [nn_cons_pos hn, perm_mid] at h7
          exact h7
        · rw [e2] at hn ⊢
          rw [e1]
          by_cases ha : 0 ≤ a
          · rw [nn_cons_pos ha, nn_cons_neg (by omega)]
            rw [nn_cons_pos ha, nn_cons_pos hn] at h7
            have e3 : g.waits ++ a :: b :: nn [] = (g.waits ++ [a]) ++ b :: [] := by simp [nn]
            rw [e3, perm_mid, List.append_nil] at h7
            exact h7
          · rw [nn_cons_neg (by omega), nn_cons_neg (by omega)]
            rw [nn_cons_neg (by omega), nn_cons_pos hn, perm_mid] at h7
            exact h7
      · show (g.queues.set _ _).length = 2
        rw [List.length_set]
        exact h.two
theorem Ok2.len {g : Gt} (h : Ok2 g) : GtLen g := ⟨by have := gateOk_small h.ok; omega, by rw [h.two]; decide⟩
end Go.Proofs.Ytbikdpljhnhcaaa

/-
  Walks: how a thread stands, by the program.
-/
import Derived.Test.YtipmgmmchmdajaaRunC
import Derived.Test.YtipmgmmchmdajaaFlV
namespace Go.Proofs.Ytipmgmmchmdajaa
open Go.RowKit

theorem kindT_of {p : Pg} {t : Tr} {k : Int} {ks : List Int} (h : t.todo.reverse = k :: ks) : kindT p t = kindN p.nodes k := by
  have e : t.todo.getLast? = some k := by rw [← List.head?_reverse, h]; rfl
  rw [kindT, e]
  rfl

set_option maxRecDepth 100000 in
set_option maxHeartbeats 4000000 in
theorem state_any (B b : Nat) (nv mv pv : Value) (t : Option Addr) (e0 e1 : Value) (p : Pg) (x : Tr) (w : World) (h : RnAt w B b nv mv pv t e0 e1 x) (hp : PgAt w nv mv pv p) :
    Calls Try.prog 51 #[.pointer (some ⟨b, 0, none⟩)] w fun e w' => e = .returned (.int .i64 (stateE p x)) ∧ Below w.heap.size w w' := by
  have c7 := Lib.cell_of_heap h.box 7
  have c3 := Lib.cell_of_heap h.box 3
  simp at c7 c3
  have HS : Hid (stateE p x = if x.fault ≠ 0 then 3 else if x.todo = [] then 2 else if isAct (kindT p x) = true then 1 else 0) := rfl
  obtain ⟨sv, es⟩ : ∃ s, stateE p x = s := ⟨_, rfl⟩
  rw [es] at HS ⊢
  clear es
  by_cases hf : x.fault = 0
  case neg =>
    obtain rfl : sv = 3 := by rw [HS.out, if_pos hf]
    obtain ⟨f, ef⟩ : ∃ f, x.fault = f := ⟨_, rfl⟩
    rw [ef] at c7 hf
    clear h hp HS ef
    go_enter Try.func51, Try.ntmps51
    go_wp2
    go_ret
    exact ⟨rfl, Below.refl _ _⟩
  rw [hf] at c7
  cases e : x.todo.reverse with
  | nil =>
    have hn : x.todo = [] := by rw [← List.reverse_reverse x.todo, e]; rfl
    have hc := h.ch
    rw [e] at hc
    injection hc with hc
    subst hc
    obtain rfl : sv = 2 := by rw [HS.out, if_neg (by simp [hf]), if_pos hn]
    clear h hp HS
    go_enter Try.func51, Try.ntmps51
    go_wp2
    go_ret
    exact ⟨rfl, Below.refl _ _⟩
  | cons k ks =>
    have hn : x.todo ≠ [] := fun h0 => by rw [h0] at e; cases e
    have hc := h.ch
    rw [e] at hc
    obtain ⟨g, nx, et, hg, hc⟩ := hc
    injection et with et
    subst et
    have HS2 : Hid (sv = if isAct (kindN p.nodes k) = true then 1 else 0) := by
      show _ = _
      rw [HS.out, if_neg (by simp [hf]), if_neg hn, kindT_of e]
    obtain ⟨no, nc, rfl, _⟩ := hp.nodes
    obtain ⟨mo, mc, rfl, _⟩ := hp.mons
    obtain ⟨po, pc, rfl, _⟩ := hp.pros
    have CC := hide (coming_any b g no nc mo _ mc po _ pc p.nodes k _ _ _ _ nx w h.box hg hp.nodes)
    obtain ⟨kn, ekn⟩ : ∃ kn, kindN p.nodes k = kn := ⟨_, rfl⟩
    rw [ekn] at CC HS2
    clear ekn HS hc hg h hp hn
    by_cases k14 : kn = 14
    · subst k14
      obtain rfl : sv = 1 := by rw [HS2.out]; rfl
      go_enter Try.func51, Try.ntmps51
      go_wp2_with (go_at_call 69; refine (unhide CC).mono ?_; rintro e w6 ⟨d1, d2, d3, d4, ko, kl, kc, rfl, hb6⟩)
      go_ret
      exact ⟨rfl, hb6.alloc hb6.size _⟩
    by_cases k15 : kn = 15
    · subst k15
      obtain rfl : sv = 1 := by rw [HS2.out]; rfl
      go_enter Try.func51, Try.ntmps51
      go_wp2_with (go_at_call 69; refine (unhide CC).mono ?_; rintro e w6 ⟨d1, d2, d3, d4, ko, kl, kc, rfl, hb6⟩)
      go_ret
      exact ⟨rfl, hb6.alloc hb6.size _⟩
    by_cases k16 : kn = 16
    · subst k16
      obtain rfl : sv = 1 := by rw [HS2.out]; rfl
      go_enter Try.func51, Try.ntmps51
      go_wp2_with (go_at_call 69; refine (unhide CC).mono ?_; rintro e w6 ⟨d1, d2, d3, d4, ko, kl, kc, rfl, hb6⟩)
      go_ret
      exact ⟨rfl, hb6.alloc hb6.size _⟩
    by_cases k17 : kn = 17
    · subst k17
      obtain rfl : sv = 1 := by rw [HS2.out]; rfl
      go_enter Try.func51, Try.ntmps51
      go_wp2_with (go_at_call 69; refine (unhide CC).mono ?_; rintro e w6 ⟨d1, d2, d3, d4, ko, kl, kc, rfl, hb6⟩)
      go_ret
      exact ⟨rfl, hb6.alloc hb6.size _⟩
    by_cases k18 : kn = 18
    · subst k18
      obtain rfl : sv = 1 := by rw [HS2.out]; rfl
      go_enter Try.func51, Try.ntmps51
      go_wp2_with (go_at_call 69; refine (unhide CC).mono ?_; rintro e w6 ⟨d1, d2, d3, d4, ko, kl, kc, rfl, hb6⟩)
      go_ret
      exact ⟨rfl, hb6.alloc hb6.size _⟩
    · obtain rfl : sv = 0 := by rw [HS2.out, if_neg]; simp [isAct, k14, k15, k16, k17, k18]
      go_enter Try.func51, Try.ntmps51
      go_wp2_with (go_at_call 69; refine (unhide CC).mono ?_; rintro e w6 ⟨d1, d2, d3, d4, ko, kl, kc, rfl, hb6⟩)
      go_ret
      exact ⟨rfl, hb6.alloc hb6.size _⟩

set_option maxRecDepth 100000 in
set_option maxHeartbeats 4000000 in
theorem implStateOf_any (nv mv pv v0 v1 v2 : Value) (p : Pg) (x : Tr) (w : World) (h : PgAt w nv mv pv p) (ht : TrAt w v0 v1 v2 x) (hlt : TrLen x) :
    Calls Try.prog 22 #[.agg #[nv, mv, pv], .agg #[v0, v1, v2, .int .i64 x.fault]] w fun e w' => e = .returned (.int .i64 (stateE p x)) ∧ Below w.heap.size w w' := by
  have HP := hide h
  have HT := hide ht
  obtain ⟨no, nc, rfl, _⟩ := h.nodes
  obtain ⟨mo, mc, rfl, _⟩ := h.mons
  obtain ⟨po, pc, rfl, _⟩ := h.pros
  have CR := fun z h => hide (runnerOf_any _ _ _ v0 v1 v2 x z h hlt ⟨no, p.nodes.length, nc, mo, p.mons.length, mc, po, p.pros.length, pc, rfl, rfl, rfl⟩)
  obtain ⟨o0, c0, rfl, _⟩ := ht.a0
  obtain ⟨o1, c1, rfl, _⟩ := ht.a1
  obtain ⟨o2, c2, rfl, _⟩ := ht.a2
  clear h ht
  obtain ⟨W1, hW⟩ : ∃ W1, (w.alloc (.cells #[.slice no p.nodes.length nc, .slice mo p.mons.length mc, .slice po p.pros.length pc] 40)).alloc (.cells #[.slice o0 x.todo.length c0, .slice o1 x.names.length c1, .slice o2 x.vals.length c2, .int .i64 x.fault] 34) = W1 := ⟨_, rfl⟩
  have B1 : Hid (Below w.heap.size w W1) := by rw [← hW]; show Below w.heap.size w _; go_grown
  have HW := hide hW
  clear hW
  obtain ⟨sv, es⟩ : ∃ s, stateE p x = s := ⟨_, rfl⟩
  have CS := fun B b t e0 e1 z h hp => hide (state_any B b (.slice no p.nodes.length nc) (.slice mo p.mons.length mc) (.slice po p.pros.length pc) t e0 e1 p x z h hp)
  simp only [es] at CS
  rw [es]
  clear es
  go_enter Try.func22, Try.ntmps22
  go_wp2_with fail
  rw [HW.out]
  refine (unhide (CR _ (HT.out.stays B1.out))).mono ?_
  rintro e z1 ⟨b, t, e0, e1, rfl, hr, hb⟩
  have R1 := hide hr
  have B2 := hide (B1.out.trans (hb.mono B1.out.size))
  clear hr hb
  go_wp2_with fail
  refine (unhide (CS _ _ _ _ _ _ R1.out (HP.out.stays B2.out))).mono ?_
  rintro e z2 ⟨rfl, hb⟩
  have B3 := hide (B2.out.trans (hb.mono B2.out.size))
  clear hb
  go_wp2
  go_ret
  exact ⟨rfl, B3.out⟩

theorem lawStateOf_whole (nv mv pv v0 v1 v2 : Value) (x0 : Pg) (x1 : Tr) (w : World) (h0 : PgAt w nv mv pv x0) (m0 : PgMax x0) (h1 : TrAt w v0 v1 v2 x1) (m1 : TrMax x1) :
    Calls Try.prog 4 #[.agg #[nv, mv, pv], .agg #[v0, v1, v2, .int .i64 x1.fault]] w fun e w' => e = .returned (.bool true) ∧ Below w.heap.size w w' :=
  lawStateOf nv mv pv v0 v1 v2 x0 x1 w h0 m0 h1 m1
    (fun hl a b c d e f z _ _ hc hk => specStateOf_any a b c d e f x0 x1 z hc.at hk.at (szPg_len (by omega)) (szTr_len (by omega)))
    (fun hl a b c d e f z _ _ hc hk => implStateOf_any a b c d e f x0 x1 z hc.at hk.at (szTr_len (by omega)))
end Go.Proofs.Ytipmgmmchmdajaa

namespace Go.Proofs.Ytipmgmmchmdajaa
open Go.RowKit
open Go.ChangeShapes Go.WideShapes Go.ChangeAt Go.Deep

set_option maxRecDepth 100000 in
theorem tr_of {H : Type} {enc : TypeId × Value → H} {W : World} {base : Nat} {v : Value} {d : DataW H} {ps : List MemPlace}
    (ho : Value.okWide Try.prog W .any base 51 v) (h : DataW.Trod enc Try.prog W 0 (fun _ => true) true 51 v d ps) : ∃ v0 v1 v2 x, v = .agg #[v0, v1, v2, .int .i64 x.fault] ∧ TrAt W v0 v1 v2 x ∧ TrMax x := by
  obtain ⟨cs, rfl, _⟩ := okWide_struct Try.underlying51 ho
  obtain ⟨fuel, hf⟩ := h
  obtain ⟨v0, v1, v2, x, e, h1⟩ := opens_Tr _ _ _ hf
  have e2 : cs = #[v0, v1, v2, .int .i64 x.fault] := by
    have : cs.toList = [v0, v1, v2, .int .i64 x.fault] := e
    rw [← Array.toList_inj]
    exact this
  subst e2
  exact ⟨v0, v1, v2, x, rfl, h1⟩
end Go.Proofs.Ytipmgmmchmdajaa

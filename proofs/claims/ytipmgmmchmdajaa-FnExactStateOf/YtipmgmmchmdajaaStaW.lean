/-
  Walks: how a thread stands, by the specification.
-/
import Derived.Test.YtipmgmmchmdajaaLawK
import Derived.Test.YtipmgmmchmdajaaTreeW
namespace Go.Proofs.Ytipmgmmchmdajaa
open Go.RowKit

theorem getLast_at {xs : List Int} {n : Nat} (h : xs.length = n + 1) : ∃ hn : n < xs.length, xs.getLast? = some xs[n] := by
  refine ⟨by omega, ?_⟩
  rw [List.getLast?_eq_getElem?]
  have e : xs.length - 1 = n := by omega
  rw [e]
  exact List.getElem?_eq_getElem _

set_option maxRecDepth 100000 in
set_option maxHeartbeats 2000000 in
theorem specKindT_any (nv mv pv v0 v1 v2 : Value) (x : Pg) (t : Tr) (w : World) (h : PgAt w nv mv pv x) (ht : TrAt w v0 v1 v2 t) (hl : PgLen x) (hlt : TrLen t) :
    Calls Try.prog 47 #[.agg #[nv, mv, pv], .agg #[v0, v1, v2, .int .i64 t.fault]] w fun e w' => e = .returned (.int .i64 (kindT x t)) ∧ Below w.heap.size w w' := by
  have hn9 := hl.nl
  have ht9 := hlt.l0
  have HP := hide h
  have HT := hide ht
  have HBB : Hid (Below w.heap.size w ((w.alloc (.cells #[nv, mv, pv] 40)).alloc (.cells #[v0, v1, v2, .int .i64 t.fault] 34))) := by show Below w.heap.size w _; go_grown
  have BP := hide ((Box.made w #[nv, mv, pv] 40).stays ((Below.refl _ _).alloc (Nat.le_refl _) (.cells #[v0, v1, v2, .int .i64 t.fault] 34)))
  obtain ⟨an, cn, rfl, hcn⟩ := h.nodes
  obtain ⟨am, cm, rfl, _⟩ := h.mons
  obtain ⟨ap, cp, rfl, _⟩ := h.pros
  obtain ⟨a0, c0, rfl, hc0⟩ := ht.a0
  obtain ⟨a1, c1, rfl, _⟩ := ht.a1
  obtain ⟨a2, c2, rfl, _⟩ := ht.a2
  have HCN := hide hcn
  have HC0 := hide hc0
  clear h ht hl hlt hcn hc0
  by_cases hz : t.todo.length = 0
  · have hk : kindT x t = 0 := by
      have e : t.todo = [] := List.eq_nil_of_length_eq_zero hz
      unfold kindT
      rw [e]
      rfl
    rw [hk]
    rw [hz] at HBB ⊢
    go_enter Try.func47, Try.ntmps47
    go_wp2
    go_ret
    exact ⟨rfl, HBB.out⟩
  · obtain ⟨n, hn⟩ : ∃ n, t.todo.length = n + 1 := ⟨t.todo.length - 1, by omega⟩
    obtain ⟨hi, hlast⟩ := getLast_at hn
    obtain ⟨a, rfl, hb, hx⟩ := HC0.out n hi
    have hxw : ((w.alloc (.cells #[.slice an x.nodes.length cn, .slice am x.mons.length cm, .slice ap x.pros.length cp] 40)).alloc (.cells #[.slice (some a) t.todo.length c0, .slice a1 t.names.length c1, .slice a2 t.vals.length c2, .int .i64 t.fault] 34)).cell? (a.add n) = some (.int .i64 t.todo[n]) := (HBB.out.cell (by rw [block_add]; exact hb)).trans hx
    have HK : Hid (kindT x t = if inZ 0 ((x.nodes.length : Int) - 1) t.todo[n] = true then (x.nodes.getD t.todo[n].toNat default).kind else 0) := by
      show _ = _
      unfold kindT
      rw [hlast]
    obtain ⟨k, hk⟩ : ∃ k, t.todo[n] = k := ⟨_, rfl⟩
    rw [hk] at hxw HK
    rw [hn] at hxw HBB ⊢
    have hne : ¬ ((n : Int) + 1 = 0) := by omega
    have hw1 : IntKind.i64.wrap ((n : Int) + 1 - 1) = (n : Int) := by rw [IntWalk.i64_in _ ⟨by omega, by omega⟩]; omega
    have hw2 : IntKind.i64.wrap ((x.nodes.length : Int) - 1) = (x.nodes.length : Int) - 1 := IntWalk.i64_in _ ⟨by omega, by omega⟩
    have hn0 : (0 : Int) ≤ (n : Int) := by omega
    have hn1 : (n : Int) < (n : Int) + 1 := by omega
    have CI := fun z => hide (l01In_gen k 0 ((x.nodes.length : Int) - 1) z)
    clear hx hlast hk hb HC0 hz
    cases hin : inZ 0 ((x.nodes.length : Int) - 1) k with
    | false =>
      have HK2 : Hid (kindT x t = 0) := by rw [HK.out, hin]; rfl
      rw [hin] at CI
      clear HK hin
      rw [HK2.out]
      go_enter Try.func47, Try.ntmps47
      go_wp2_with (go_at_call 66; refine (unhide (CI _)).mono ?_; rintro e z ⟨rfl, rfl⟩)
      go_ret
      exact ⟨rfl, HBB.out⟩
    | true =>
      have hkz := inZ_yes.1 hin
      obtain ⟨j, rfl⟩ : ∃ j : Nat, k = (j : Int) := ⟨k.toNat, by omega⟩
      have hj : j < x.nodes.length := by omega
      obtain ⟨a', kv, rfl, hb', hcell⟩ := HCN.out j hj
      have hj0 : (0 : Int) ≤ (j : Int) := by omega
      have hj1 : (j : Int) < (x.nodes.length : Int) := by omega
      have HK2 : Hid (kindT x t = x.nodes[j].kind) := by
        show _ = _
        rw [HK.out, hin]
        simp [List.getD, hj]
      have hcw := (HBB.out.cell (p := a'.add (j * 6)) (by rw [block_add]; exact hb')).trans hcell.c0
      obtain ⟨kd, hkd⟩ : ∃ kd, x.nodes[j].kind = kd := ⟨_, rfl⟩
      rw [hkd] at hcw HK2
      rw [HK2.out]
      rw [hin] at CI
      clear HK hin hkz hcell hkd
      go_enter Try.func47, Try.ntmps47
      go_wp2_with (go_at_call 66; refine (unhide (CI _)).mono ?_; rintro e z ⟨rfl, rfl⟩)
      go_ret
      exact ⟨rfl, HBB.out⟩

set_option maxRecDepth 100000 in
set_option maxHeartbeats 2000000 in
theorem specStateOf_any (nv mv pv v0 v1 v2 : Value) (x : Pg) (t : Tr) (w : World) (h : PgAt w nv mv pv x) (ht : TrAt w v0 v1 v2 t) (hl : PgLen x) (hlt : TrLen t) :
    Calls Try.prog 20 #[.agg #[nv, mv, pv], .agg #[v0, v1, v2, .int .i64 t.fault]] w fun e w' => e = .returned (.int .i64 (stateE x t)) ∧ Below w.heap.size w w' := by
  have ht9 := hlt.l0
  have HBB : Hid (Below w.heap.size w ((w.alloc (.cells #[nv, mv, pv] 40)).alloc (.cells #[v0, v1, v2, .int .i64 t.fault] 34))) := by show Below w.heap.size w _; go_grown
  have CK := hide (specKindT_any nv mv pv v0 v1 v2 x t _ (h.stays HBB.out) (ht.stays HBB.out) hl hlt)
  obtain ⟨an, cn, rfl, _⟩ := h.nodes
  obtain ⟨am, cm, rfl, _⟩ := h.mons
  obtain ⟨ap, cp, rfl, _⟩ := h.pros
  obtain ⟨a0, c0, rfl, _⟩ := ht.a0
  obtain ⟨a1, c1, rfl, _⟩ := ht.a1
  obtain ⟨a2, c2, rfl, _⟩ := ht.a2
  clear h ht hl hlt
  by_cases hf : t.fault = 0
  case neg =>
    have e : stateE x t = 3 := if_pos hf
    have hf' : (t.fault != 0) = true := by simpa using hf
    rw [e]
    go_enter Try.func20, Try.ntmps20
    go_wp2
    go_ret
    exact ⟨rfl, HBB.out⟩
  case pos =>
    by_cases hz : t.todo.length = 0
    · have e : stateE x t = 2 := by
        have e1 : t.todo = [] := List.eq_nil_of_length_eq_zero hz
        unfold stateE
        rw [if_neg (by simpa using hf), if_pos e1]
      rw [e]
      rw [hf, hz] at HBB ⊢
      go_enter Try.func20, Try.ntmps20
      go_wp2
      go_ret
      exact ⟨rfl, HBB.out⟩
    · have hne : t.todo ≠ [] := fun e => hz (by rw [e]; rfl)
      have HS : Hid (stateE x t = if isAct (kindT x t) = true then 1 else 0) := by
        show _ = _
        unfold stateE
        rw [if_neg (by simpa using hf), if_neg hne]
      obtain ⟨n, hn⟩ : ∃ n, t.todo.length = n + 1 := ⟨t.todo.length - 1, by omega⟩
      have hn1 : ¬ ((n : Int) + 1 = 0) := by omega
      obtain ⟨kd, hkd⟩ : ∃ k, kindT x t = k := ⟨_, rfl⟩
      rw [hkd] at CK HS
      rw [HS.out]
      rw [hf, hn] at HBB CK ⊢
      clear hkd hz hne HS ht9 hn hf
      by_cases k1 : kd = 14
      · subst k1
        go_enter Try.func20, Try.ntmps20
        go_wp2_with (go_at_call 47; refine CK.out.mono ?_; rintro e z ⟨rfl, hb⟩; have B2 := hide (HBB.out.trans (hb.mono HBB.out.size)); clear hb)
        go_ret
        exact ⟨rfl, B2.out⟩
      by_cases k2 : kd = 15
      · subst k2
        go_enter Try.func20, Try.ntmps20
        go_wp2_with (go_at_call 47; refine CK.out.mono ?_; rintro e z ⟨rfl, hb⟩; have B2 := hide (HBB.out.trans (hb.mono HBB.out.size)); clear hb)
        go_ret
        exact ⟨rfl, B2.out⟩
      by_cases k3 : kd = 16
      · subst k3
        go_enter Try.func20, Try.ntmps20
        go_wp2_with (go_at_call 47; refine CK.out.mono ?_; rintro e z ⟨rfl, hb⟩; have B2 := hide (HBB.out.trans (hb.mono HBB.out.size)); clear hb)
        go_ret
        exact ⟨rfl, B2.out⟩
      by_cases k4 : kd = 17
      · subst k4
        go_enter Try.func20, Try.ntmps20
        go_wp2_with (go_at_call 47; refine CK.out.mono ?_; rintro e z ⟨rfl, hb⟩; have B2 := hide (HBB.out.trans (hb.mono HBB.out.size)); clear hb)
        go_ret
        exact ⟨rfl, B2.out⟩
      by_cases k5 : kd = 18
      · subst k5
        go_enter Try.func20, Try.ntmps20
        go_wp2_with (go_at_call 47; refine CK.out.mono ?_; rintro e z ⟨rfl, hb⟩; have B2 := hide (HBB.out.trans (hb.mono HBB.out.size)); clear hb)
        go_ret
        exact ⟨rfl, B2.out⟩
      have e9 : isAct kd = false := by
        unfold isAct
        simp [k1, k2, k3, k4, k5]
      rw [e9]
      clear e9
      go_enter Try.func20, Try.ntmps20
      go_wp2_with (go_at_call 47; refine CK.out.mono ?_; rintro e z ⟨rfl, hb⟩; have B2 := hide (HBB.out.trans (hb.mono HBB.out.size)); clear hb)
      go_ret
      exact ⟨rfl, B2.out⟩
end Go.Proofs.Ytipmgmmchmdajaa

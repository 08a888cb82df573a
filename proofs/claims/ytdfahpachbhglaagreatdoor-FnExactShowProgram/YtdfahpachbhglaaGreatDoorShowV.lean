/-
  Showing, by the specification: values.
-/
import Derived.Test.YtdfahpachbhglaaGreatDoorShowN
import Derived.Deep.RegionHeld3
namespace Go.Proofs.YtdfahpachbhglaaGreatDoor
open Go.RowKit

theorem specDecimal_in (n : Int) (w : World) (h0 : 0 ≤ n) (h1 : n ≤ 1000000) : Calls Tryz.prog 76 #[.int .i64 n] w fun e w' => e = .returned (.string (strOfNums (decI n))) ∧ Below w.heap.size w w' := by
  rcases Int.lt_or_eq_of_le h0 with h | h
  · obtain ⟨m, rfl⟩ : ∃ m : Nat, n = m := ⟨n.toNat, by omega⟩
    rw [decI_pos h]
    exact specDecimal_pos m w (by omega) (by omega)
  · subst h
    exact specDecimal_zero w

/-- What stays while a node is shown: the program's copy, the node's copy, the nodes. -/
structure VB (w : World) (nv mv pv : Value) (ns : List Nd) (x : Nd) (kv : Value) (z : World) : Prop where
  bel : Below w.heap.size w z
  box : Boxed w.heap.size z nv mv pv
  nod : NodAt (w.heap.size + 1) z x kv
  nds : NdsAt z nv ns
theorem VB.stays {w z z' : World} {nv mv pv kv : Value} {ns : List Nd} {x : Nd} (h : VB w nv mv pv ns x kv z) (hb : Below z.heap.size z z') : VB w nv mv pv ns x kv z' :=
  ⟨h.bel.trans (hb.mono h.bel.size), h.box.stays hb, h.nod.stays hb, h.nds.stays hb⟩
theorem VB.drew {w z : World} {nv mv pv kv : Value} {ns : List Nd} {x : Nd} (h : VB w nv mv pv ns x kv z) : VB w nv mv pv ns x kv z.drew := h.stays (Below.refl _ _).drew

/-- One of two. -/
def IsKid (m n j : Nat) : Prop := j = m ∨ j = n
theorem two_of {l : List Int} (h : l.length = 2) : ∃ a b, l = [a, b] := by
  match l, h with
  | [a, b], _ => exact ⟨a, b, rfl⟩
def opL : List ByteArray := [tx "", tx "+", tx "-", tx "*", tx "/", tx "%", tx "<", tx "=", tx "and", tx "or"]
theorem opSign_at {o : Nat} {t : ByteArray} (h : opL[o]? = some t) : opSign (o : Int) = t := by
  have e : opSign (o : Int) = opL.getD o (tx "") := rfl
  rw [e, List.getD_eq_getElem?_getD, h]
  rfl
theorem opL_size {o : Nat} {t : ByteArray} (h : opL[o]? = some t) : t.size ≤ 3 := by
  have : ∀ x ∈ opL, x.size ≤ 3 := by decide +kernel
  exact this t (List.mem_of_getElem? h)
set_option maxHeartbeats 1000000 in
theorem l07Ops_any (w : World) : Calls Tryz.prog 77 #[] w fun e w' => ∃ g, e = .returned (.slice (some ⟨g, 0, none⟩) 10 10) ∧ Below w.heap.size w w' ∧ g < w'.heap.size ∧ ∀ (j : Nat) (t : ByteArray), opL[j]? = some t → w'.cell? ⟨g, j, none⟩ = some (.string t) := by
  go_enter Tryz.func77, Tryz.ntmps77
  go_wp2
  go_ret
  refine ⟨w.heap.size, rfl, (Below.refl _ _).alloc (Nat.le_refl _) _, by simp, fun j t hj => ?_⟩
  rw [World.cell?_alloc_new]
  have e0 : opL = [⟨#[]⟩, ⟨#[43]⟩, ⟨#[45]⟩, ⟨#[42]⟩, ⟨#[47]⟩, ⟨#[37]⟩, ⟨#[60]⟩, ⟨#[61]⟩, ⟨#[97, 110, 100]⟩, ⟨#[111, 114]⟩] := by decide +kernel
  have e : opL.map Value.string = [.string ⟨#[]⟩, .string ⟨#[43]⟩, .string ⟨#[45]⟩, .string ⟨#[42]⟩, .string ⟨#[47]⟩, .string ⟨#[37]⟩, .string ⟨#[60]⟩, .string ⟨#[61]⟩, .string ⟨#[97, 110, 100]⟩, .string ⟨#[111, 114]⟩] := by rw [e0]; rfl
  have h2 := congrArg (·[j]?) e
  simp only [List.getElem?_map, hj, Option.map_some] at h2
  rw [← Array.getElem?_toList]
  exact h2.symm

theorem wpAnyH_mono {P : Program} {md : Region.Mode} {ops : Array Oper} {Q : Exit → Act → World → Prop} {S S' : World → Prop} (h : ∀ w, S' w → S w) : ∀ (fuel : Nat) (listed : Array Bool) (a : Act) (w : World), wpAnyH P md ops Q S' fuel listed a w → wpAnyH P md ops Q S fuel listed a w
  | 0, _, _, _, q => q
  | fuel + 1, _, _, _, q => ⟨q.1, fun i hi => wpOp_mono (fun _ _ h' => ⟨h _ h'.1, wpAnyH_mono h fuel _ _ _ h'.2⟩) (q.2 i hi)⟩

set_option maxRecDepth 100000 in
set_option maxHeartbeats 4000000 in
theorem l07Value_step {ns : List Nd} {dp : Nat → Nat} (hR : RightT ns dp) (d k : Nat) (hk : k < ns.length) (hd : dp k ≤ d + 1) (hv : valueQ ns[k].kind = true) (_hl : ns.length ≤ 1048576) (nv mv pv : Value) (hsz : ∀ j, j < ns.length → dp j ≤ d → (joinS (shS ns d j)).size ≤ 60000000000000)
    (ih : ∀ (j : Nat) (w : World), j < ns.length → dp j ≤ d → valueQ (ns.getD j default).kind = true → NdsAt w nv ns → Calls Tryz.prog 54 #[.agg #[nv, mv, pv], .int .i64 (j : Int)] w fun e w' => e = .returned (.string (joinS (shS ns d j))) ∧ Below w.heap.size w w')
    (w : World) (hN : NdsAt w nv ns) : Calls Tryz.prog 54 #[.agg #[nv, mv, pv], .int .i64 (k : Int)] w fun e w' => e = .returned (.string (joinS (shS ns (d + 1) k))) ∧ Below w.heap.size w w' := by
  have hnode := hR.node k hk
  have hkid := hR.kid k hk
  rw [getD_at hk] at hnode hkid
  have hb1 : Below w.heap.size w (w.alloc (.cells #[nv, mv, pv] 34)) := (Below.refl _ _).alloc (Nat.le_refl _) _
  have HN := hide (hN.stays hb1)
  have HX := hide (Boxed.made w nv mv pv 34)
  obtain ⟨a, c, p, kv, rfl, hpa, hpb, hcell⟩ := HN.out.node k hk
  obtain ⟨d0, d1, d2, d3, d4, d5, hkids⟩ := hcell
  have HD := hide (NodAt.made _ ns[k] kv 78 hkids)
  have HB : Hid (Below w.heap.size w ((w.alloc (.cells #[.slice (some a) ns.length c, mv, pv] 34)).alloc (.cells #[.int .i64 ns[k].kind, .int .i64 ns[k].num, .string ns[k].name, .string ns[k].more, .string ns[k].into, kv] 78))) :=
    hb1.alloc hb1.size _
  have HN2 := hide (HN.out.stays ((Below.refl _ _).alloc (Nat.le_refl _) (.cells #[.int .i64 ns[k].kind, .int .i64 ns[k].num, .string ns[k].name, .string ns[k].more, .string ns[k].into, kv] 78)))
  have HX2 := hide (HX.out.stays ((Below.refl _ _).alloc (Nat.le_refl _) (.cells #[.int .i64 ns[k].kind, .int .i64 ns[k].num, .string ns[k].name, .string ns[k].more, .string ns[k].into, kv] 78)))
  have HH : Hid ((w.alloc (.cells #[.slice (some a) ns.length c, mv, pv] 34)).heap.size = w.heap.size + 1) := by show _ = _; simp
  rw [HH.out] at HD
  obtain ⟨bo, cb, rfl, _⟩ := hkids
  have hi0 : (0 : Int) ≤ (k : Int) := by omega
  have hi1 : (k : Int) < (ns.length : Int) := by omega
  have hkl : (kinds ns k).length = ns[k].kids.length := kinds_len hk
  have hKO := kids_of hnode hkl
  have hsh : shS ns (d + 1) k = signsN ns[k] (fun i => shS ns d (kidN ns[k] i)) (ns[k].kids.map fun y => shS ns d y.toNat) := by rw [shS, getD_at hk]
  obtain ⟨x, ex⟩ : ∃ x, ns[k] = x := ⟨_, rfl⟩
  rw [ex] at HD HB HN2 HX2 d0 d1 d2 d3 d4 d5 hv hnode hkid hKO hsh
  obtain ⟨kd, num, nm, mo, it, ks⟩ := x
  dsimp only at HD HB HN2 HX2 d0 d1 d2 d3 d4 d5 hv hkid hKO hsh
  have hkd : kd = 1 ∨ kd = 2 ∨ kd = 3 ∨ kd = 4 ∨ kd = 5 := by
    simp only [valueQ, inZ, decide_eq_true_eq] at hv
    omega
  have hkid2 : ∀ y ∈ ks, ∃ m : Nat, y = (m : Int) ∧ m < ns.length ∧ dp m ≤ d := fun y hy => by
    obtain ⟨a1, a2, a3⟩ := hkid y hy
    exact ⟨y.toNat, by omega, by omega, by omega⟩
  rcases hkd with rfl | rfl | rfl | rfl | rfl
  · have hnum : 0 ≤ num ∧ num ≤ 1000000 := by
      simp only [nodeB, Bool.and_eq_true, inZ, decide_eq_true_eq] at hnode
      have := hnode.2
      simp only [if_true, decide_eq_true_eq] at this
      exact this
    have HE : Hid (shS ns (d + 1) k = [strOfNums (decI num)]) := hsh
    have CD := fun w => hide (specDecimal_in num w hnum.1 hnum.2)
    rw [HE.out]
    clear hsh hKO hkid hnode hv hR hkid2
    go_enter Tryz.func54, Tryz.ntmps54
    go_wp2_with fail
    refine (unhide (CD _)).mono ?_
    rintro e w1 ⟨rfl, hb⟩
    go_wp2
    go_ret
    exact ⟨rfl, HB.out.trans (hb.mono HB.out.size)⟩
  · have HE : Hid (shS ns (d + 1) k = [nm]) := hsh
    rw [HE.out]
    clear hsh hKO hkid hnode hv hR
    go_enter Tryz.func54, Tryz.ntmps54
    go_wp2
    go_ret
    exact ⟨rfl, HB.out⟩
  · have h1 := hKO.1 rfl
    obtain ⟨y, y2, rfl⟩ : ∃ y y2, ks = [y, y2] := two_of h1
    obtain ⟨m, rfl, hm1, hm2⟩ := hkid2 y List.mem_cons_self
    obtain ⟨n, rfl, hn1, hn2⟩ := hkid2 y2 (List.mem_cons_of_mem _ List.mem_cons_self)
    have hq : valueQ (ns.getD m default).kind = true ∧ valueQ (ns.getD n default).kind = true := by
      have h9 := hkid (m : Int) List.mem_cons_self
      have h8 := hkid (n : Int) (List.mem_cons_of_mem _ List.mem_cons_self)
      exact kid_values (x := ⟨3, num, nm, mo, it, [(m : Int), (n : Int)]⟩) (by rw [kinds, getD_at hk, ex]) hnode rfl ⟨by omega, h9.2.1⟩ ⟨by omega, h8.2.1⟩ rfl
    have hnum : 1 ≤ num ∧ num ≤ 9 := by
      simp only [nodeB, Bool.and_eq_true, inZ, decide_eq_true_eq] at hnode
      have := hnode.2
      simp only [show ¬ (3 : Int) = 1 by decide, if_false, if_true, decide_eq_true_eq] at this
      exact this
    obtain ⟨o, rfl⟩ : ∃ o : Nat, num = o := ⟨num.toNat, by omega⟩
    obtain ⟨ot, hot⟩ : ∃ ot, opL[o]? = some ot := ⟨opL[o]'(by show o < 10; omega), List.getElem?_eq_getElem _⟩
    have HE : Hid (shS ns (d + 1) k = tx "(" :: (shS ns d m ++ opSign (o : Int) :: (shS ns d n ++ [tx ")"]))) := hsh
    have hdd : 1 ≤ d := by have := (hR.deep m hm1).1; omega
    have hd1 : shS ns d m ≠ [] := by
      obtain ⟨d', rfl⟩ : ∃ d', d = d' + 1 := ⟨d - 1, by omega⟩
      exact shS_ne ns d' m
    have hd2 : shS ns d n ≠ [] := by
      obtain ⟨d', rfl⟩ : ∃ d', d = d' + 1 := ⟨d - 1, by omega⟩
      exact shS_ne ns d' n
    have HT : Hid (joinS (shS ns (d + 1) k) = ⟨#[40, 32]⟩ ++ joinS (shS ns d m) ++ ⟨#[32]⟩ ++ ot ++ ⟨#[32]⟩ ++ joinS (shS ns d n) ++ ⟨#[32, 41]⟩) := by
      show _ = _
      rw [HE.out, opSign_at hot, joinS_cons _ (by simp), joinS_app hd1 (by simp), joinS_cons _ (by simp), joinS_app hd2 (by simp)]
      have e1 : tx "(" ++ ⟨#[32]⟩ = (⟨#[40, 32]⟩ : ByteArray) := by decide +kernel
      have e2 : (⟨#[32]⟩ : ByteArray) ++ joinS [tx ")"] = ⟨#[32, 41]⟩ := by decide +kernel
      simp only [← ByteArray.append_assoc]
      rw [e1]
      simp only [ByteArray.append_assoc]
      rw [e2]
    rw [HT.out]
    obtain ⟨T, eT⟩ : ∃ T : Nat → ByteArray, T = fun j => joinS (shS ns d j) := ⟨_, rfl⟩
    have CJ := fun (j : Nat) (w : World) (hj : IsKid m n j) (h : NdsAt w (.slice (some a) ns.length c) ns) => hide (show Calls Tryz.prog 54 #[.agg #[.slice (some a) ns.length c, mv, pv], .int .i64 (j : Int)] w fun e w' => e = .returned (.string (T j)) ∧ Below w.heap.size w w' from by
      rw [eT]
      rcases hj with rfl | rfl
      · exact ih _ w hm1 hm2 hq.1 h
      · exact ih _ w hn1 hn2 hq.2 h)
    have hs : (T m).size ≤ 60000000000000 := by rw [eT]; exact hsz m hm1 hm2
    have hs2 : (T n).size ≤ 60000000000000 := by rw [eT]; exact hsz n hn1 hn2
    have ho3 := opL_size hot
    have HJm : IsKid m n m := .inl rfl
    have HJn : IsKid m n n := .inr rfl
    have CO := fun w => hide (l07Ops_any w)
    rw [show joinS (shS ns d m) = T m by rw [eT], show joinS (shS ns d n) = T n by rw [eT]]
    have hc1 : ¬ 9223372036854775807 < 2 + (T m).size := by omega
    have hc2 : ¬ 9223372036854775807 < 2 + (T m).size + 1 := by omega
    have hc3 : ¬ 9223372036854775807 < 2 + (T m).size + 1 + ot.size := by omega
    have hc4 : ¬ 9223372036854775807 < 2 + (T m).size + 1 + ot.size + 1 := by omega
    have hc5 : ¬ 9223372036854775807 < 2 + (T m).size + 1 + ot.size + 1 + (T n).size := by omega
    have hc6 : ¬ 9223372036854775807 < 2 + (T m).size + 1 + ot.size + 1 + (T n).size + 2 := by omega
    have ho0 : (0 : Int) ≤ (o : Int) := by omega
    have ho1 : (o : Int) < 10 := by omega
    clear hsh hKO hkid hnode hv hR hkid2 eT HE HT hd1 hd2 hdd hm1 hm2 hn1 hn2 hq h1 ih hsz hnum
    have VW : Hid (VB w (.slice (some a) ns.length c) mv pv ns ⟨3, (o : Int), nm, mo, it, [(m : Int), (n : Int)]⟩ (.slice bo 2 cb) ((w.alloc (.cells #[.slice (some a) ns.length c, mv, pv] 34)).alloc (.cells #[.int .i64 3, .int .i64 (o : Int), .string nm, .string mo, .string it, .slice bo 2 cb] 78))) := ⟨HB.out, HX2.out, HD.out, HN2.out⟩
    have hkd0 : ∃ a0, bo = some a0 ∧ ∀ z, VB w (.slice (some a) ns.length c) mv pv ns ⟨3, (o : Int), nm, mo, it, [(m : Int), (n : Int)]⟩ (.slice bo 2 cb) z → z.cell? a0 = some (.int .i64 (m : Int)) ∧ z.cell? { block := a0.block, off := a0.off + 1 } = some (.int .i64 (n : Int)) := by
      obtain ⟨ao, c0, e0, hk0⟩ := HD.out.kids
      injection e0 with e1 e2 e3
      subst e1
      obtain ⟨a0, ea0, _, _⟩ := hk0 0 (by simp)
      refine ⟨a0, ea0, fun z hz => ?_⟩
      obtain ⟨ao', c0', e0', hk0'⟩ := hz.nod.kids
      injection e0' with e1' e2' e3'
      subst e1'
      obtain ⟨a1, ea1, _, hc1⟩ := hk0' 0 (by simp)
      obtain ⟨a2, ea2, _, hc2⟩ := hk0' 1 (by simp)
      rw [ea0] at ea1 ea2
      cases ea1
      cases ea2
      exact ⟨by simpa [go_sem] using hc1, by simpa [go_sem] using hc2⟩
    obtain ⟨a0, rfl, hK0⟩ := hkd0
    have HK := hide hK0
    have KS : Hid (∀ z, VB w (.slice (some a) ns.length c) mv pv ns ⟨3, (o : Int), nm, mo, it, [(m : Int), (n : Int)]⟩ (.slice (some a0) 2 cb) z → (z.cell? ⟨w.heap.size, 0, none⟩ = some (.slice (some a) ns.length c) ∧ z.cell? ⟨w.heap.size, 1, none⟩ = some mv ∧ z.cell? ⟨w.heap.size, 2, none⟩ = some pv ∧ z.cell? ⟨w.heap.size + 1, 1, none⟩ = some (.int .i64 (o : Int)) ∧ z.cell? ⟨w.heap.size + 1, 5, none⟩ = some (.slice (some a0) 2 cb) ∧ z.cell? a0 = some (.int .i64 (m : Int)) ∧ z.cell? { block := a0.block, off := a0.off + 1 } = some (.int .i64 (n : Int)) ∧ Hid (VB w (.slice (some a) ns.length c) mv pv ns ⟨3, (o : Int), nm, mo, it, [(m : Int), (n : Int)]⟩ (.slice (some a0) 2 cb) z))) := fun z hz => ⟨hz.box.c0, hz.box.c1, hz.box.c2, hz.nod.c1, hz.nod.c5, (HK.out z hz).1, (HK.out z hz).2, hz⟩
    have KN : Hid (∀ z, (z.cell? ⟨w.heap.size, 0, none⟩ = some (.slice (some a) ns.length c) ∧ z.cell? ⟨w.heap.size, 1, none⟩ = some mv ∧ z.cell? ⟨w.heap.size, 2, none⟩ = some pv ∧ z.cell? ⟨w.heap.size + 1, 1, none⟩ = some (.int .i64 (o : Int)) ∧ z.cell? ⟨w.heap.size + 1, 5, none⟩ = some (.slice (some a0) 2 cb) ∧ z.cell? a0 = some (.int .i64 (m : Int)) ∧ z.cell? { block := a0.block, off := a0.off + 1 } = some (.int .i64 (n : Int)) ∧ Hid (VB w (.slice (some a) ns.length c) mv pv ns ⟨3, (o : Int), nm, mo, it, [(m : Int), (n : Int)]⟩ (.slice (some a0) 2 cb) z)) → NdsAt z (.slice (some a) ns.length c) ns) := fun z hz => hz.2.2.2.2.2.2.2.out.nds
    have KV : Hid (∀ z, (z.cell? ⟨w.heap.size, 0, none⟩ = some (.slice (some a) ns.length c) ∧ z.cell? ⟨w.heap.size, 1, none⟩ = some mv ∧ z.cell? ⟨w.heap.size, 2, none⟩ = some pv ∧ z.cell? ⟨w.heap.size + 1, 1, none⟩ = some (.int .i64 (o : Int)) ∧ z.cell? ⟨w.heap.size + 1, 5, none⟩ = some (.slice (some a0) 2 cb) ∧ z.cell? a0 = some (.int .i64 (m : Int)) ∧ z.cell? { block := a0.block, off := a0.off + 1 } = some (.int .i64 (n : Int)) ∧ Hid (VB w (.slice (some a) ns.length c) mv pv ns ⟨3, (o : Int), nm, mo, it, [(m : Int), (n : Int)]⟩ (.slice (some a0) 2 cb) z)) → VB w (.slice (some a) ns.length c) mv pv ns ⟨3, (o : Int), nm, mo, it, [(m : Int), (n : Int)]⟩ (.slice (some a0) 2 cb) z) := fun z hz => hz.2.2.2.2.2.2.2.out
    have KP : Hid (∀ z z', (z.cell? ⟨w.heap.size, 0, none⟩ = some (.slice (some a) ns.length c) ∧ z.cell? ⟨w.heap.size, 1, none⟩ = some mv ∧ z.cell? ⟨w.heap.size, 2, none⟩ = some pv ∧ z.cell? ⟨w.heap.size + 1, 1, none⟩ = some (.int .i64 (o : Int)) ∧ z.cell? ⟨w.heap.size + 1, 5, none⟩ = some (.slice (some a0) 2 cb) ∧ z.cell? a0 = some (.int .i64 (m : Int)) ∧ z.cell? { block := a0.block, off := a0.off + 1 } = some (.int .i64 (n : Int)) ∧ Hid (VB w (.slice (some a) ns.length c) mv pv ns ⟨3, (o : Int), nm, mo, it, [(m : Int), (n : Int)]⟩ (.slice (some a0) 2 cb) z)) → Below z.heap.size z z' → (z'.cell? ⟨w.heap.size, 0, none⟩ = some (.slice (some a) ns.length c) ∧ z'.cell? ⟨w.heap.size, 1, none⟩ = some mv ∧ z'.cell? ⟨w.heap.size, 2, none⟩ = some pv ∧ z'.cell? ⟨w.heap.size + 1, 1, none⟩ = some (.int .i64 (o : Int)) ∧ z'.cell? ⟨w.heap.size + 1, 5, none⟩ = some (.slice (some a0) 2 cb) ∧ z'.cell? a0 = some (.int .i64 (m : Int)) ∧ z'.cell? { block := a0.block, off := a0.off + 1 } = some (.int .i64 (n : Int)) ∧ Hid (VB w (.slice (some a) ns.length c) mv pv ns ⟨3, (o : Int), nm, mo, it, [(m : Int), (n : Int)]⟩ (.slice (some a0) 2 cb) z'))) := fun z z' h hb => KS.out z' (h.2.2.2.2.2.2.2.out.stays hb)
    clear hK0 HB HX2 HD HN2
    go_enter Tryz.func54, Tryz.ntmps54
    go_wp2_with fail
    generalize (w.alloc (.cells #[.slice (some a) ns.length c, mv, pv] 34)).alloc (.cells #[.int .i64 3, .int .i64 (o : Int), .string nm, .string mo, .string it, .slice (some a0) 2 cb] 78) = W2 at VW ⊢
    have K0 := hide (KS.out _ VW.out.drew)
    clear VW KS
    refine wp_region_held_drew (S := fun z => (z.cell? ⟨w.heap.size, 0, none⟩ = some (.slice (some a) ns.length c) ∧ z.cell? ⟨w.heap.size, 1, none⟩ = some mv ∧ z.cell? ⟨w.heap.size, 2, none⟩ = some pv ∧ z.cell? ⟨w.heap.size + 1, 1, none⟩ = some (.int .i64 (o : Int)) ∧ z.cell? ⟨w.heap.size + 1, 5, none⟩ = some (.slice (some a0) 2 cb) ∧ z.cell? a0 = some (.int .i64 (m : Int)) ∧ z.cell? { block := a0.block, off := a0.off + 1 } = some (.int .i64 (n : Int)) ∧ Hid (VB w (.slice (some a) ns.length c) mv pv ns ⟨3, (o : Int), nm, mo, it, [(m : Int), (n : Int)]⟩ (.slice (some a0) 2 cb) z))) (by kernel_rfl) K0.out (fun hH0 => ?_)
    refine wpAnyH_take (i := 0) (v := ?_) rfl (by kernel_rfl) (by kernel_rfl) (by kernel_rfl) (fun _ _ _ h => h) (Or.inl ⟨by rfl, ?_⟩) hH0 ?_
    rotate_left
    · intro w hSw; (try dsimp only at hSw); go_simp; (try with_reducible rfl)
    change wpAnyH _ _ _ _ _ _ _ (Act.put _ (some 40) _) _
    simp only [Act.put, List.setIfInBounds_toArray, List.set_cons_zero, List.set_cons_succ]
    refine wpAnyH_take (i := 1) (v := ?_) rfl (by kernel_rfl) (by kernel_rfl) (by kernel_rfl) (fun _ _ _ h => h) (Or.inl ⟨by rfl, ?_⟩) hH0 ?_
    rotate_left
    · intro w hSw; (try dsimp only at hSw); go_simp; (try with_reducible rfl)
    change wpAnyH _ _ _ _ _ _ _ (Act.put _ (some 41) _) _
    simp only [Act.put, List.setIfInBounds_toArray, List.set_cons_zero, List.set_cons_succ]
    refine wpAnyH_take (i := 2) (v := ?_) rfl (by kernel_rfl) (by kernel_rfl) (by kernel_rfl) (fun _ _ _ h => h) (Or.inl ⟨by rfl, ?_⟩) hH0 ?_
    rotate_left
    · intro w hSw; (try dsimp only at hSw); go_simp; (try with_reducible rfl)
    change wpAnyH _ _ _ _ _ _ _ (Act.put _ (some 42) _) _
    simp only [Act.put, List.setIfInBounds_toArray, List.set_cons_zero, List.set_cons_succ]
    refine wpAnyH_take (i := 3) (v := ?_) rfl (by kernel_rfl) (by kernel_rfl) (by kernel_rfl) (fun _ _ _ h => h) (Or.inl ⟨by rfl, ?_⟩) hH0 ?_
    rotate_left
    · intro w hSw; (try dsimp only at hSw); go_simp; (try with_reducible rfl)
    change wpAnyH _ _ _ _ _ _ _ (Act.put _ (some 43) _) _
    simp only [Act.put, List.setIfInBounds_toArray, List.set_cons_zero, List.set_cons_succ]
    refine wpAnyH_take (i := 4) (v := ?_) rfl (by kernel_rfl) (by kernel_rfl) (by kernel_rfl) (fun _ _ _ h => h) (Or.inl ⟨by rfl, ?_⟩) hH0 ?_
    rotate_left
    · intro w hSw; (try dsimp only at hSw); go_simp; (try with_reducible rfl)
    change wpAnyH _ _ _ _ _ _ _ (Act.put _ (some 44) _) _
    simp only [Act.put, List.setIfInBounds_toArray, List.set_cons_zero, List.set_cons_succ]
    refine wpAnyH_take (i := 9) (v := ?_) rfl (by kernel_rfl) (by kernel_rfl) (by kernel_rfl) (fun _ _ _ h => h) (Or.inl ⟨by rfl, ?_⟩) hH0 ?_
    rotate_left
    · intro w hSw; (try dsimp only at hSw); go_simp; (try with_reducible rfl)
    change wpAnyH _ _ _ _ _ _ _ (Act.put _ (some 49) _) _
    simp only [Act.put, List.setIfInBounds_toArray, List.set_cons_zero, List.set_cons_succ]
    refine wpAnyH_take (i := 10) (v := ?_) rfl (by kernel_rfl) (by kernel_rfl) (by kernel_rfl) (fun _ _ _ h => h) (Or.inl ⟨by rfl, ?_⟩) hH0 ?_
    rotate_left
    · intro w hSw; (try dsimp only at hSw); go_simp; (try with_reducible rfl)
    change wpAnyH _ _ _ _ _ _ _ (Act.put _ (some 50) _) _
    simp only [Act.put, List.setIfInBounds_toArray, List.set_cons_zero, List.set_cons_succ]
    refine wpAnyH_take (i := 15) (v := ?_) rfl (by kernel_rfl) (by kernel_rfl) (by kernel_rfl) (fun _ _ _ h => h) (Or.inl ⟨by rfl, ?_⟩) hH0 ?_
    rotate_left
    · intro w hSw; (try dsimp only at hSw); go_simp; (try with_reducible rfl)
    change wpAnyH _ _ _ _ _ _ _ (Act.put _ (some 55) _) _
    simp only [Act.put, List.setIfInBounds_toArray, List.set_cons_zero, List.set_cons_succ]
    refine wpAnyH_take (i := 16) (v := ?_) rfl (by kernel_rfl) (by kernel_rfl) (by kernel_rfl) (fun _ _ _ h => h) (Or.inl ⟨by rfl, ?_⟩) hH0 ?_
    rotate_left
    · intro w hSw; (try dsimp only at hSw); go_simp; (try with_reducible rfl)
    change wpAnyH _ _ _ _ _ _ _ (Act.put _ (some 56) _) _
    simp only [Act.put, List.setIfInBounds_toArray, List.set_cons_zero, List.set_cons_succ]
    refine wpAnyH_take (i := 17) (v := ?_) rfl (by kernel_rfl) (by kernel_rfl) (by kernel_rfl) (fun _ _ _ h => h) (Or.inl ⟨by rfl, ?_⟩) hH0 ?_
    rotate_left
    · intro w hSw; (try dsimp only at hSw); go_simp; (try with_reducible rfl)
    change wpAnyH _ _ _ _ _ _ _ (Act.put _ (some 57) _) _
    simp only [Act.put, List.setIfInBounds_toArray, List.set_cons_zero, List.set_cons_succ]
    refine wpAnyH_take (i := 18) (v := ?_) rfl (by kernel_rfl) (by kernel_rfl) (by kernel_rfl) (fun _ _ _ h => h) (Or.inl ⟨by rfl, ?_⟩) hH0 ?_
    rotate_left
    · intro w hSw; (try dsimp only at hSw); go_simp; (try with_reducible rfl)
    change wpAnyH _ _ _ _ _ _ _ (Act.put _ (some 58) _) _
    simp only [Act.put, List.setIfInBounds_toArray, List.set_cons_zero, List.set_cons_succ]
    refine wpAnyH_take (i := 19) (v := ?_) rfl (by kernel_rfl) (by kernel_rfl) (by kernel_rfl) (fun _ _ _ h => h) (Or.inl ⟨by rfl, ?_⟩) hH0 ?_
    rotate_left
    · intro w hSw; (try dsimp only at hSw); go_simp; (try with_reducible rfl)
    change wpAnyH _ _ _ _ _ _ _ (Act.put _ (some 59) _) _
    simp only [Act.put, List.setIfInBounds_toArray, List.set_cons_zero, List.set_cons_succ]
    refine wpAnyH_ready (rs := [5]) (by kernel_rfl) (by simp) ?_
    refine AllReadyH.cons rfl (fun K hK => ?_) AllReadyH.nil
    go_simp
    refine Calls.mono (unhide (CJ _ _ HJm (KN.out _ hH0))) ?_
    rintro e w4 ⟨rfl, hb4⟩
    refine hK.out _ _ (KP.out _ _ hH0 hb4) (fun hH1 => ?_)
    clear hK K hb4
    refine wpAnyH_take (i := 6) (v := ?_) rfl (by kernel_rfl) (by kernel_rfl) (by kernel_rfl) (fun _ _ _ h => h) (Or.inl ⟨by rfl, ?_⟩) hH1 ?_
    rotate_left
    · intro w hSw; (try dsimp only at hSw); go_simp; (try with_reducible rfl)
    change wpAnyH _ _ _ _ _ _ _ (Act.put _ (some 46) _) _
    simp only [Act.put, List.setIfInBounds_toArray, List.set_cons_zero, List.set_cons_succ]
    refine wpAnyH_take (i := 7) (v := ?_) rfl (by kernel_rfl) (by kernel_rfl) (by kernel_rfl) (fun _ _ _ h => h) (Or.inl ⟨by rfl, ?_⟩) hH1 ?_
    rotate_left
    · intro w hSw; (try dsimp only at hSw); go_simp; (try with_reducible rfl)
    change wpAnyH _ _ _ _ _ _ _ (Act.put _ (some 47) _) _
    simp only [Act.put, List.setIfInBounds_toArray, List.set_cons_zero, List.set_cons_succ]
    refine wpAnyH_ready (rs := [8]) (by kernel_rfl) (by simp) ?_
    refine AllReadyH.cons rfl (fun K hK => ?_) AllReadyH.nil
    go_simp
    refine (unhide (CO _)).mono ?_
    rintro e w5 ⟨g, rfl, hb5, hgo, hall⟩
    have hop := hall o ot hot
    refine hK.out _ _ (KP.out _ _ hH1 hb5) (fun hH2 => ?_)
    clear hK K hb5 hall
    refine wpAnyH_mono (S' := fun z => ((z.cell? ⟨w.heap.size, 0, none⟩ = some (.slice (some a) ns.length c) ∧ z.cell? ⟨w.heap.size, 1, none⟩ = some mv ∧ z.cell? ⟨w.heap.size, 2, none⟩ = some pv ∧ z.cell? ⟨w.heap.size + 1, 1, none⟩ = some (.int .i64 (o : Int)) ∧ z.cell? ⟨w.heap.size + 1, 5, none⟩ = some (.slice (some a0) 2 cb) ∧ z.cell? a0 = some (.int .i64 (m : Int)) ∧ z.cell? { block := a0.block, off := a0.off + 1 } = some (.int .i64 (n : Int)) ∧ Hid (VB w (.slice (some a) ns.length c) mv pv ns ⟨3, (o : Int), nm, mo, it, [(m : Int), (n : Int)]⟩ (.slice (some a0) 2 cb) z))) ∧ z.cell? ⟨g, o, none⟩ = some (.string ot)) (fun _ h => h.1) _ _ _ _ ?_
    have hH3 := And.intro hH2 hop
    refine wpAnyH_take (i := 11) (v := ?_) rfl (by kernel_rfl) (by kernel_rfl) (by kernel_rfl) (fun _ _ _ h => h) (Or.inl ⟨by rfl, ?_⟩) hH3 ?_
    rotate_left
    · intro w hSw; (try dsimp only at hSw); go_simp; (try with_reducible rfl)
    change wpAnyH _ _ _ _ _ _ _ (Act.put _ (some 51) _) _
    simp only [Act.put, List.setIfInBounds_toArray, List.set_cons_zero, List.set_cons_succ]
    refine wpAnyH_take (i := 12) (v := ?_) rfl (by kernel_rfl) (by kernel_rfl) (by kernel_rfl) (fun _ _ _ h => h) (Or.inl ⟨by rfl, ?_⟩) hH3 ?_
    rotate_left
    · intro w hSw; (try dsimp only at hSw); go_simp; (try with_reducible rfl)
    change wpAnyH _ _ _ _ _ _ _ (Act.put _ (some 52) _) _
    simp only [Act.put, List.setIfInBounds_toArray, List.set_cons_zero, List.set_cons_succ]
    refine wpAnyH_take (i := 13) (v := ?_) rfl (by kernel_rfl) (by kernel_rfl) (by kernel_rfl) (fun _ _ _ h => h) (Or.inl ⟨by rfl, ?_⟩) hH3 ?_
    rotate_left
    · intro w hSw; (try dsimp only at hSw); go_simp; (try with_reducible rfl)
    change wpAnyH _ _ _ _ _ _ _ (Act.put _ (some 53) _) _
    simp only [Act.put, List.setIfInBounds_toArray, List.set_cons_zero, List.set_cons_succ]
    refine wpAnyH_take (i := 14) (v := ?_) rfl (by kernel_rfl) (by kernel_rfl) (by kernel_rfl) (fun _ _ _ h => h) (Or.inl ⟨by rfl, ?_⟩) hH3 ?_
    rotate_left
    · intro w hSw; (try dsimp only at hSw); go_simp; (try with_reducible rfl)
    change wpAnyH _ _ _ _ _ _ _ (Act.put _ (some 54) _) _
    simp only [Act.put, List.setIfInBounds_toArray, List.set_cons_zero, List.set_cons_succ]
    refine wpAnyH_ready (rs := [20]) (by kernel_rfl) (by simp) ?_
    refine AllReadyH.cons rfl (fun K hK => ?_) AllReadyH.nil
    go_simp
    refine Calls.mono (unhide (CJ _ _ HJn (KN.out _ hH3.1))) ?_
    rintro e w6 ⟨rfl, hb6⟩
    refine hK.out _ _ ⟨KP.out _ _ hH3.1 hb6, (hb6.cell (p := ⟨g, o, none⟩) hgo).trans hop⟩ (fun hH4 => ?_)
    clear hK K hb6
    refine wpAnyH_take (i := 21) (v := ?_) rfl (by kernel_rfl) (by kernel_rfl) (by kernel_rfl) (fun _ _ _ h => h) (Or.inl ⟨by rfl, ?_⟩) hH4 ?_
    rotate_left
    · intro w hSw; (try dsimp only at hSw); go_simp; (try with_reducible rfl)
    change wpAnyH _ _ _ _ _ _ _ (Act.put _ (some 61) _) _
    simp only [Act.put, List.setIfInBounds_toArray, List.set_cons_zero, List.set_cons_succ]
    refine wpAnyH_take (i := 22) (v := ?_) rfl (by kernel_rfl) (by kernel_rfl) (by kernel_rfl) (fun _ _ _ h => h) (Or.inl ⟨by rfl, ?_⟩) hH4 ?_
    rotate_left
    · intro w hSw; (try dsimp only at hSw); go_simp; (try with_reducible rfl)
    change wpAnyH _ _ _ _ _ _ _ (Act.put _ (some 62) _) _
    simp only [Act.put, List.setIfInBounds_toArray, List.set_cons_zero, List.set_cons_succ]
    refine wpAnyH_take (i := 23) (v := ?_) rfl (by kernel_rfl) (by kernel_rfl) (by kernel_rfl) (fun _ _ _ h => h) (Or.inl ⟨by rfl, ?_⟩) hH4 ?_
    rotate_left
    · intro w hSw; (try dsimp only at hSw); go_simp; (try with_reducible rfl)
    change wpAnyH _ _ _ _ _ _ _ (Act.put _ (some 4) _) _
    simp only [Act.put, List.setIfInBounds_toArray, List.set_cons_zero, List.set_cons_succ]
    refine wpAnyH_done (by kernel_rfl) ?_ _
    have D := hide (KV.out _ hH4.1)
    go_wp2
    go_ret
    exact ⟨rfl, D.out.bel⟩
  · have h1 := hKO.2.1 (.inl rfl)
    obtain ⟨y, rfl⟩ : ∃ y, ks = [y] := List.length_eq_one_iff.1 h1
    obtain ⟨m, rfl, hm1, hm2⟩ := hkid2 y (List.mem_singleton.2 rfl)
    have hm3 : valueQ (ns.getD m default).kind = true := by
      have h9 := hkid (m : Int) (List.mem_singleton.2 rfl)
      exact kid_value (x := ⟨4, num, nm, mo, it, [(m : Int)]⟩) (by rw [kinds, getD_at hk, ex]) hnode rfl ⟨by omega, h9.2.1⟩ (.inl rfl)
    have HE : Hid (shS ns (d + 1) k = tx "not" :: shS ns d m) := hsh
    have hd1 : shS ns d m ≠ [] := by
      have := (hR.deep m hm1).1
      obtain ⟨d', rfl⟩ : ∃ d', d = d' + 1 := ⟨d - 1, by omega⟩
      exact shS_ne ns d' m
    have hs := hsz m hm1 hm2
    have CI := fun w h => hide (ih m w hm1 hm2 hm3 h)
    rw [HE.out, joinS_cons _ hd1]
    obtain ⟨t, et⟩ : ∃ t, t = joinS (shS ns d m) := ⟨_, rfl⟩
    rw [← et] at CI hs ⊢
    have hc4 : ¬ 9223372036854775807 < 4 + t.size := by omega
    have hc2 : ¬ 9223372036854775807 < 2 + t.size := by omega
    clear hsh hKO hkid hnode hv hR hkid2 et HE hd1 hm1 hm2 hm3 h1 ih hsz
    have VW : Hid (VB w (.slice (some a) ns.length c) mv pv ns ⟨4, num, nm, mo, it, [(m : Int)]⟩ (.slice bo 1 cb) ((w.alloc (.cells #[.slice (some a) ns.length c, mv, pv] 34)).alloc (.cells #[.int .i64 4, .int .i64 num, .string nm, .string mo, .string it, .slice bo 1 cb] 78))) := ⟨HB.out, HX2.out, HD.out, HN2.out⟩
    have hkd0 : ∃ a0, bo = some a0 ∧ ∀ z, VB w (.slice (some a) ns.length c) mv pv ns ⟨4, num, nm, mo, it, [(m : Int)]⟩ (.slice bo 1 cb) z → z.cell? a0 = some (.int .i64 (m : Int)) := by
      obtain ⟨ao, c0, e0, hk0⟩ := HD.out.kids
      injection e0 with e1 e2 e3
      subst e1
      obtain ⟨a0, ea0, _, _⟩ := hk0 0 (by simp)
      refine ⟨a0, ea0, fun z hz => ?_⟩
      obtain ⟨ao', c0', e0', hk0'⟩ := hz.nod.kids
      injection e0' with e1' e2' e3'
      subst e1'
      obtain ⟨a1, ea1, _, hc1⟩ := hk0' 0 (by simp)
      rw [ea0] at ea1
      cases ea1
      simpa [go_sem] using hc1
    obtain ⟨a0, rfl, hK0⟩ := hkd0
    have HK := hide hK0
    have KS : Hid (∀ z, VB w (.slice (some a) ns.length c) mv pv ns ⟨4, num, nm, mo, it, [(m : Int)]⟩ (.slice (some a0) 1 cb) z → (z.cell? ⟨w.heap.size, 0, none⟩ = some (.slice (some a) ns.length c) ∧ z.cell? ⟨w.heap.size, 1, none⟩ = some mv ∧ z.cell? ⟨w.heap.size, 2, none⟩ = some pv ∧ z.cell? ⟨w.heap.size + 1, 5, none⟩ = some (.slice (some a0) 1 cb) ∧ z.cell? a0 = some (.int .i64 (m : Int)) ∧ Hid (VB w (.slice (some a) ns.length c) mv pv ns ⟨4, num, nm, mo, it, [(m : Int)]⟩ (.slice (some a0) 1 cb) z))) := fun z hz => ⟨hz.box.c0, hz.box.c1, hz.box.c2, hz.nod.c5, HK.out z hz, hz⟩
    have KN : Hid (∀ z, (z.cell? ⟨w.heap.size, 0, none⟩ = some (.slice (some a) ns.length c) ∧ z.cell? ⟨w.heap.size, 1, none⟩ = some mv ∧ z.cell? ⟨w.heap.size, 2, none⟩ = some pv ∧ z.cell? ⟨w.heap.size + 1, 5, none⟩ = some (.slice (some a0) 1 cb) ∧ z.cell? a0 = some (.int .i64 (m : Int)) ∧ Hid (VB w (.slice (some a) ns.length c) mv pv ns ⟨4, num, nm, mo, it, [(m : Int)]⟩ (.slice (some a0) 1 cb) z)) → NdsAt z (.slice (some a) ns.length c) ns) := fun z hz => hz.2.2.2.2.2.out.nds
    have KV : Hid (∀ z, (z.cell? ⟨w.heap.size, 0, none⟩ = some (.slice (some a) ns.length c) ∧ z.cell? ⟨w.heap.size, 1, none⟩ = some mv ∧ z.cell? ⟨w.heap.size, 2, none⟩ = some pv ∧ z.cell? ⟨w.heap.size + 1, 5, none⟩ = some (.slice (some a0) 1 cb) ∧ z.cell? a0 = some (.int .i64 (m : Int)) ∧ Hid (VB w (.slice (some a) ns.length c) mv pv ns ⟨4, num, nm, mo, it, [(m : Int)]⟩ (.slice (some a0) 1 cb) z)) → VB w (.slice (some a) ns.length c) mv pv ns ⟨4, num, nm, mo, it, [(m : Int)]⟩ (.slice (some a0) 1 cb) z) := fun z hz => hz.2.2.2.2.2.out
    have KP : Hid (∀ z z', (z.cell? ⟨w.heap.size, 0, none⟩ = some (.slice (some a) ns.length c) ∧ z.cell? ⟨w.heap.size, 1, none⟩ = some mv ∧ z.cell? ⟨w.heap.size, 2, none⟩ = some pv ∧ z.cell? ⟨w.heap.size + 1, 5, none⟩ = some (.slice (some a0) 1 cb) ∧ z.cell? a0 = some (.int .i64 (m : Int)) ∧ Hid (VB w (.slice (some a) ns.length c) mv pv ns ⟨4, num, nm, mo, it, [(m : Int)]⟩ (.slice (some a0) 1 cb) z)) → Below z.heap.size z z' → (z'.cell? ⟨w.heap.size, 0, none⟩ = some (.slice (some a) ns.length c) ∧ z'.cell? ⟨w.heap.size, 1, none⟩ = some mv ∧ z'.cell? ⟨w.heap.size, 2, none⟩ = some pv ∧ z'.cell? ⟨w.heap.size + 1, 5, none⟩ = some (.slice (some a0) 1 cb) ∧ z'.cell? a0 = some (.int .i64 (m : Int)) ∧ Hid (VB w (.slice (some a) ns.length c) mv pv ns ⟨4, num, nm, mo, it, [(m : Int)]⟩ (.slice (some a0) 1 cb) z'))) := fun z z' h hb => KS.out z' (h.2.2.2.2.2.out.stays hb)
    clear hK0 HB HX2 HD HN2
    go_enter Tryz.func54, Tryz.ntmps54
    go_wp2_with fail
    generalize (w.alloc (.cells #[.slice (some a) ns.length c, mv, pv] 34)).alloc (.cells #[.int .i64 4, .int .i64 num, .string nm, .string mo, .string it, .slice (some a0) 1 cb] 78) = W2 at VW ⊢
    have K0 := hide (KS.out _ VW.out.drew)
    clear VW KS
    go_region_held3 (fun z => (z.cell? ⟨w.heap.size, 0, none⟩ = some (.slice (some a) ns.length c) ∧ z.cell? ⟨w.heap.size, 1, none⟩ = some mv ∧ z.cell? ⟨w.heap.size, 2, none⟩ = some pv ∧ z.cell? ⟨w.heap.size + 1, 5, none⟩ = some (.slice (some a0) 1 cb) ∧ z.cell? a0 = some (.int .i64 (m : Int)) ∧ Hid (VB w (.slice (some a) ns.length c) mv pv ns ⟨4, num, nm, mo, it, [(m : Int)]⟩ (.slice (some a0) 1 cb) z))) (first | exact K0.out | exact KP.out _ _ (by assumption) hb4) ((go_at_call 54; refine (unhide (CI _ (KN.out _ (by assumption)))).mono ?_; rintro e w4 ⟨rfl, hb4⟩))
    all_goals (have D := hide (KV.out _ (by assumption)))
    all_goals go_wp2
    all_goals go_ret
    all_goals exact ⟨rfl, D.out.bel⟩
  · have h1 := hKO.2.1 (.inr (.inl rfl))
    obtain ⟨y, rfl⟩ : ∃ y, ks = [y] := List.length_eq_one_iff.1 h1
    obtain ⟨m, rfl, hm1, hm2⟩ := hkid2 y (List.mem_singleton.2 rfl)
    have hm3 : valueQ (ns.getD m default).kind = true := by
      have h9 := hkid (m : Int) (List.mem_singleton.2 rfl)
      exact kid_value (x := ⟨5, num, nm, mo, it, [(m : Int)]⟩) (by rw [kinds, getD_at hk, ex]) hnode rfl ⟨by omega, h9.2.1⟩ (.inr (.inl rfl))
    have HE : Hid (shS ns (d + 1) k = tx "-" :: shS ns d m) := hsh
    have hd1 : shS ns d m ≠ [] := by
      have := (hR.deep m hm1).1
      obtain ⟨d', rfl⟩ : ∃ d', d = d' + 1 := ⟨d - 1, by omega⟩
      exact shS_ne ns d' m
    have hs := hsz m hm1 hm2
    have CI := fun w h => hide (ih m w hm1 hm2 hm3 h)
    rw [HE.out, joinS_cons _ hd1]
    obtain ⟨t, et⟩ : ∃ t, t = joinS (shS ns d m) := ⟨_, rfl⟩
    rw [← et] at CI hs ⊢
    have hc4 : ¬ 9223372036854775807 < 4 + t.size := by omega
    have hc2 : ¬ 9223372036854775807 < 2 + t.size := by omega
    clear hsh hKO hkid hnode hv hR hkid2 et HE hd1 hm1 hm2 hm3 h1 ih hsz
    have VW : Hid (VB w (.slice (some a) ns.length c) mv pv ns ⟨5, num, nm, mo, it, [(m : Int)]⟩ (.slice bo 1 cb) ((w.alloc (.cells #[.slice (some a) ns.length c, mv, pv] 34)).alloc (.cells #[.int .i64 5, .int .i64 num, .string nm, .string mo, .string it, .slice bo 1 cb] 78))) := ⟨HB.out, HX2.out, HD.out, HN2.out⟩
    have hkd0 : ∃ a0, bo = some a0 ∧ ∀ z, VB w (.slice (some a) ns.length c) mv pv ns ⟨5, num, nm, mo, it, [(m : Int)]⟩ (.slice bo 1 cb) z → z.cell? a0 = some (.int .i64 (m : Int)) := by
      obtain ⟨ao, c0, e0, hk0⟩ := HD.out.kids
      injection e0 with e1 e2 e3
      subst e1
      obtain ⟨a0, ea0, _, _⟩ := hk0 0 (by simp)
      refine ⟨a0, ea0, fun z hz => ?_⟩
      obtain ⟨ao', c0', e0', hk0'⟩ := hz.nod.kids
      injection e0' with e1' e2' e3'
      subst e1'
      obtain ⟨a1, ea1, _, hc1⟩ := hk0' 0 (by simp)
      rw [ea0] at ea1
      cases ea1
      simpa [go_sem] using hc1
    obtain ⟨a0, rfl, hK0⟩ := hkd0
    have HK := hide hK0
    have KS : Hid (∀ z, VB w (.slice (some a) ns.length c) mv pv ns ⟨5, num, nm, mo, it, [(m : Int)]⟩ (.slice (some a0) 1 cb) z → (z.cell? ⟨w.heap.size, 0, none⟩ = some (.slice (some a) ns.length c) ∧ z.cell? ⟨w.heap.size, 1, none⟩ = some mv ∧ z.cell? ⟨w.heap.size, 2, none⟩ = some pv ∧ z.cell? ⟨w.heap.size + 1, 5, none⟩ = some (.slice (some a0) 1 cb) ∧ z.cell? a0 = some (.int .i64 (m : Int)) ∧ Hid (VB w (.slice (some a) ns.length c) mv pv ns ⟨5, num, nm, mo, it, [(m : Int)]⟩ (.slice (some a0) 1 cb) z))) := fun z hz => ⟨hz.box.c0, hz.box.c1, hz.box.c2, hz.nod.c5, HK.out z hz, hz⟩
    have KN : Hid (∀ z, (z.cell? ⟨w.heap.size, 0, none⟩ = some (.slice (some a) ns.length c) ∧ z.cell? ⟨w.heap.size, 1, none⟩ = some mv ∧ z.cell? ⟨w.heap.size, 2, none⟩ = some pv ∧ z.cell? ⟨w.heap.size + 1, 5, none⟩ = some (.slice (some a0) 1 cb) ∧ z.cell? a0 = some (.int .i64 (m : Int)) ∧ Hid (VB w (.slice (some a) ns.length c) mv pv ns ⟨5, num, nm, mo, it, [(m : Int)]⟩ (.slice (some a0) 1 cb) z)) → NdsAt z (.slice (some a) ns.length c) ns) := fun z hz => hz.2.2.2.2.2.out.nds
    have KV : Hid (∀ z, (z.cell? ⟨w.heap.size, 0, none⟩ = some (.slice (some a) ns.length c) ∧ z.cell? ⟨w.heap.size, 1, none⟩ = some mv ∧ z.cell? ⟨w.heap.size, 2, none⟩ = some pv ∧ z.cell? ⟨w.heap.size + 1, 5, none⟩ = some (.slice (some a0) 1 cb) ∧ z.cell? a0 = some (.int .i64 (m : Int)) ∧ Hid (VB w (.slice (some a) ns.length c) mv pv ns ⟨5, num, nm, mo, it, [(m : Int)]⟩ (.slice (some a0) 1 cb) z)) → VB w (.slice (some a) ns.length c) mv pv ns ⟨5, num, nm, mo, it, [(m : Int)]⟩ (.slice (some a0) 1 cb) z) := fun z hz => hz.2.2.2.2.2.out
    have KP : Hid (∀ z z', (z.cell? ⟨w.heap.size, 0, none⟩ = some (.slice (some a) ns.length c) ∧ z.cell? ⟨w.heap.size, 1, none⟩ = some mv ∧ z.cell? ⟨w.heap.size, 2, none⟩ = some pv ∧ z.cell? ⟨w.heap.size + 1, 5, none⟩ = some (.slice (some a0) 1 cb) ∧ z.cell? a0 = some (.int .i64 (m : Int)) ∧ Hid (VB w (.slice (some a) ns.length c) mv pv ns ⟨5, num, nm, mo, it, [(m : Int)]⟩ (.slice (some a0) 1 cb) z)) → Below z.heap.size z z' → (z'.cell? ⟨w.heap.size, 0, none⟩ = some (.slice (some a) ns.length c) ∧ z'.cell? ⟨w.heap.size, 1, none⟩ = some mv ∧ z'.cell? ⟨w.heap.size, 2, none⟩ = some pv ∧ z'.cell? ⟨w.heap.size + 1, 5, none⟩ = some (.slice (some a0) 1 cb) ∧ z'.cell? a0 = some (.int .i64 (m : Int)) ∧ Hid (VB w (.slice (some a) ns.length c) mv pv ns ⟨5, num, nm, mo, it, [(m : Int)]⟩ (.slice (some a0) 1 cb) z'))) := fun z z' h hb => KS.out z' (h.2.2.2.2.2.out.stays hb)
    clear hK0 HB HX2 HD HN2
    go_enter Tryz.func54, Tryz.ntmps54
    go_wp2_with fail
    generalize (w.alloc (.cells #[.slice (some a) ns.length c, mv, pv] 34)).alloc (.cells #[.int .i64 5, .int .i64 num, .string nm, .string mo, .string it, .slice (some a0) 1 cb] 78) = W2 at VW ⊢
    have K0 := hide (KS.out _ VW.out.drew)
    clear VW KS
    go_region_held3 (fun z => (z.cell? ⟨w.heap.size, 0, none⟩ = some (.slice (some a) ns.length c) ∧ z.cell? ⟨w.heap.size, 1, none⟩ = some mv ∧ z.cell? ⟨w.heap.size, 2, none⟩ = some pv ∧ z.cell? ⟨w.heap.size + 1, 5, none⟩ = some (.slice (some a0) 1 cb) ∧ z.cell? a0 = some (.int .i64 (m : Int)) ∧ Hid (VB w (.slice (some a) ns.length c) mv pv ns ⟨5, num, nm, mo, it, [(m : Int)]⟩ (.slice (some a0) 1 cb) z))) (first | exact K0.out | exact KP.out _ _ (by assumption) hb4) ((go_at_call 54; refine (unhide (CI _ (KN.out _ (by assumption)))).mono ?_; rintro e w4 ⟨rfl, hb4⟩))
    all_goals (have D := hide (KV.out _ (by assumption)))
    all_goals go_wp2
    all_goals go_ret
    all_goals exact ⟨rfl, D.out.bel⟩
end Go.Proofs.YtdfahpachbhglaaGreatDoor

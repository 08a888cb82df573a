/-
  Showing, by the specification: statements.
-/
import Derived.Test.YtdfahpachbhglaaGreatDoorShowS
namespace Go.Proofs.YtdfahpachbhglaaGreatDoor
open Go.RowKit

theorem empty_of {s : ByteArray} (h : s.toList.isEmpty = true) : s = ⟨#[]⟩ := by
  rw [List.isEmpty_iff, ByteArray.toList_eq] at h
  apply ByteArray.ext
  exact Array.toList_inj.1 h
theorem one_of {l : List Int} (h : l.length = 1) : ∃ a, l = [a] := List.length_eq_one_iff.1 h
theorem three_of {l : List Int} (h : l.length = 3) : ∃ a b c, l = [a, b, c] := by
  match l, h with
  | [a, b, c], _ => exact ⟨a, b, c, rfl⟩
/-- How long the names of a right node are. -/
theorem facts_of {x : Nd} {l : List Int} (h : nodeB x l = true) : (namedQ x.kind = true → x.name.size ≤ 8) ∧ (x.kind = 14 → x.more.size ≤ 8 ∧ (x.into.toList.isEmpty = true ∨ x.into.size ≤ 8)) := by
  simp only [nodeB, Bool.and_eq_true] at h
  refine ⟨fun hq => ?_, fun hq => ?_⟩
  · have := h.1.1.2
    rw [if_pos hq] at this
    exact nameB_size this
  · have := h.1.2
    rw [if_pos hq] at this
    simp only [Bool.and_eq_true, Bool.or_eq_true] at this
    exact ⟨nameB_size this.1, this.2.imp id nameB_size⟩
/-- Of what kind the kids of a statement are: the first is a value, the others are blocks. -/
theorem kid_kinds {ns : List Nd} {k : Nat} {x : Nd} (hk : kinds ns k = x.kids.map (kidKind ns k)) (h : nodeB x (kinds ns k) = true) (hy : ∀ y ∈ x.kids, 0 ≤ y ∧ y < (k : Int)) :
    ((x.kind = 11 ∨ x.kind = 12 ∨ x.kind = 13 ∨ x.kind = 14 ∨ x.kind = 15) → ∀ (i : Nat) (y : Int), x.kids[i]? = some y → i = 0 → valueQ (ns.getD y.toNat default).kind = true) ∧ ((x.kind = 12 ∨ x.kind = 13) → ∀ (i : Nat) (y : Int), x.kids[i]? = some y → i ≠ 0 → (ns.getD y.toNat default).kind = 20) := by
  have h2 : kidsB x.kind (kinds ns k) = true := by
    simp only [nodeB, Bool.and_eq_true] at h
    exact h.1.1.1.2
  have hat : ∀ (i : Nat) (y : Int), x.kids[i]? = some y → (kinds ns k)[i]? = some (ns.getD y.toNat default).kind := fun i y hi => by
    rw [hk, List.getElem?_map, hi, Option.map_some, kindK_at (hy y (List.mem_of_getElem? hi))]
  unfold kidsB at h2
  refine ⟨fun e i y hi h0 => ?_, fun e i y hi h0 => ?_⟩
  · have hv : ((kinds ns k).take 1).all valueQ = true := by
      by_cases e1 : x.kind = 12
      · rw [if_neg (by omega), if_neg (by omega), if_neg (by omega), if_pos e1] at h2
        simp only [Bool.and_eq_true] at h2
        exact h2.1.2
      · by_cases e2 : x.kind = 13
        · rw [if_neg (by omega), if_neg (by omega), if_neg (by omega), if_neg (by omega), if_pos e2] at h2
          simp only [Bool.and_eq_true] at h2
          exact h2.1.2
        · rw [if_neg (by omega), if_neg (by omega), if_pos (by omega)] at h2
          simp only [Bool.and_eq_true] at h2
          exact h2.2
    subst h0
    exact List.all_eq_true.1 hv _ (List.mem_of_getElem? (i := 0) (by rw [List.getElem?_take, if_pos (by omega)]; exact hat 0 y hi))
  · have hv : ((kinds ns k).drop 1).all blockQ = true := by
      by_cases e1 : x.kind = 12
      · rw [if_neg (by omega), if_neg (by omega), if_neg (by omega), if_pos e1] at h2
        simp only [Bool.and_eq_true] at h2
        exact h2.2
      · rw [if_neg (by omega), if_neg (by omega), if_neg (by omega), if_neg (by omega), if_pos (by omega)] at h2
        simp only [Bool.and_eq_true] at h2
        exact h2.2
    have := List.all_eq_true.1 hv _ (List.mem_of_getElem? (i := i - 1) (by rw [List.getElem?_drop, show 1 + (i - 1) = i by omega]; exact hat i y hi))
    simpa [blockQ] using this

set_option maxRecDepth 100000 in
set_option maxHeartbeats 4000000 in
theorem l07St_print {ns : List Nd} {dp : Nat → Nat} (hR : RightT ns dp) (d k : Nat) (h10 : d ≤ 10) (hk : k < ns.length) (hd : dp k ≤ d + 1) (hkd : ns[k].kind = 15) (hl : ns.length ≤ 1048576) (nv mv pv : Value)
    (ihB : ∀ (j : Nat) (w : World), j < ns.length → dp j ≤ d → (ns.getD j default).kind = 20 → NdsAt w nv ns → Calls Tryz.prog 14 #[.agg #[nv, mv, pv], .int .i64 (j : Int)] w fun e w' => e = .returned (.string (joinS (shS ns d j))) ∧ Below w.heap.size w w')
    (w : World) (hN : NdsAt w nv ns) : Calls Tryz.prog 33 #[.agg #[nv, mv, pv], .int .i64 (k : Int)] w fun e w' => e = .returned (.string (joinS (shS ns (d + 1) k))) ∧ Below w.heap.size w w' := by
  have hnode := hR.node k hk
  have hkid := hR.kid k hk
  rw [getD_at hk] at hnode hkid
  have hb1 : Below w.heap.size w (w.alloc (.cells #[nv, mv, pv] 34)) := (Below.refl _ _).alloc (Nat.le_refl _) _
  have HN := hide (hN.stays hb1)
  have HX := hide (Boxed.made w nv mv pv 34)
  obtain ⟨a, c, p, kv, rfl, hpa, hpb, hcell⟩ := HN.out.node k hk
  obtain ⟨d0, d1, d2, d3, d4, d5, hkids⟩ := hcell
  have HD := hide (NodAt.made _ ns[k] kv 78 hkids)
  have HB : Hid (Below w.heap.size w ((w.alloc (.cells #[.slice (some a) ns.length c, mv, pv] 34)).alloc (.cells #[.int .i64 ns[k].kind, .int .i64 ns[k].num, .string ns[k].name, .string ns[k].more, .string ns[k].into, kv] 78))) :=
    hb1.alloc hb1.size _
  have HN2 := hide (HN.out.stays ((Below.refl _ _).alloc (Nat.le_refl _) (.cells #[.int .i64 ns[k].kind, .int .i64 ns[k].num, .string ns[k].name, .string ns[k].more, .string ns[k].into, kv] 78)))
  have HX2 := hide (HX.out.stays ((Below.refl _ _).alloc (Nat.le_refl _) (.cells #[.int .i64 ns[k].kind, .int .i64 ns[k].num, .string ns[k].name, .string ns[k].more, .string ns[k].into, kv] 78)))
  have HH : Hid ((w.alloc (.cells #[.slice (some a) ns.length c, mv, pv] 34)).heap.size = w.heap.size + 1) := by show _ = _; simp
  rw [HH.out] at HD
  obtain ⟨bo, cb, rfl, _⟩ := hkids
  have hi0 : (0 : Int) ≤ (k : Int) := by omega
  have hi1 : (k : Int) < (ns.length : Int) := by omega
  have hklen : (kinds ns k).length = ns[k].kids.length := kinds_len hk
  have hKO := kids_of hnode hklen
  have hkin : kinds ns k = ns[k].kids.map (kidKind ns k) := by rw [kinds, getD_at hk]
  have hsh : shS ns (d + 1) k = signsN ns[k] (fun i => shS ns d (kidN ns[k] i)) (ns[k].kids.map fun y => shS ns d y.toNat) := by rw [shS, getD_at hk]
  have hFT := facts_of hnode
  obtain ⟨x, ex⟩ : ∃ x, ns[k] = x := ⟨_, rfl⟩
  rw [ex] at HD HB HN2 HX2 d0 d1 d2 d3 d4 d5 hkd hnode hkid hKO hsh hkin hFT
  obtain ⟨kd, num, nm, mo, it, ks⟩ := x
  dsimp only at HD HB HN2 HX2 d0 d1 d2 d3 d4 d5 hkd hkid hKO hkin hFT
  subst hkd
  have hkid2 : ∀ y ∈ ks, ∃ m : Nat, y = (m : Int) ∧ m < ns.length ∧ dp m ≤ d := fun y hy => by
    obtain ⟨a1, a2, a3⟩ := hkid y hy
    exact ⟨y.toNat, by omega, by omega, by omega⟩
  have hlen : ks.length = 1 := (by have := hKO.2.1 (by simp); exact this)
  obtain ⟨y0, rfl⟩ : ∃ y0, ks = [y0] := one_of hlen
  obtain ⟨m0, rfl, hm0, hd0⟩ := hkid2 y0 (List.mem_cons_self)
  have hq := kid_kinds (x := ⟨15, num, nm, mo, it, [(m0 : Int)]⟩) hkin hnode (fun y hy => ⟨(hkid y hy).1, (hkid y hy).2.1⟩)
  have q0 : valueQ (ns.getD m0 default).kind = true := hq.1 (by simp) 0 (m0 : Int) rfl rfl
  have s0 := shS_joined hR h10 hm0 hd0
  have n0 : shS ns d m0 ≠ [] := by
    have := (hR.deep m0 hm0).1
    obtain ⟨d', rfl⟩ : ∃ d', d = d' + 1 := ⟨d - 1, by omega⟩
    exact shS_ne ns d' m0
  have C0 := fun w h => hide (l07Value_any hR hl (.slice (some a) ns.length c) mv pv d h10 m0 w hm0 hd0 q0 h)
  have HT : Hid (joinS (shS ns (d + 1) k) = ⟨#[112, 114, 105, 110, 116, 32]⟩ ++ joinS (shS ns d m0)) := by
    show _ = _
    rw [hsh]
    show joinS (tx "print" :: shS ns d m0) = _
    rw [joinS_cons _ n0]
    rfl
  rw [HT.out]
  obtain ⟨t0, et0⟩ : ∃ t, t = joinS (shS ns d m0) := ⟨_, rfl⟩
  rw [← et0] at C0 s0 ⊢
  have hc0 : ¬ 9223372036854775807 < 6 + t0.size := by omega
  clear hsh hKO hkid hnode hR hkid2 HT hkin hFT ihB et0 n0 hm0 hd0 q0 hlen hq
  have VW : Hid (VB w (.slice (some a) ns.length c) mv pv ns ⟨15, num, nm, mo, it, [(m0 : Int)]⟩ (.slice bo 1 cb) ((w.alloc (.cells #[.slice (some a) ns.length c, mv, pv] 34)).alloc (.cells #[.int .i64 15, .int .i64 num, .string nm, .string mo, .string it, .slice bo 1 cb] 78))) := ⟨HB.out, HX2.out, HD.out, HN2.out⟩
  have hkd0 : ∃ a0, bo = some a0 ∧ ∀ z, VB w (.slice (some a) ns.length c) mv pv ns ⟨15, num, nm, mo, it, [(m0 : Int)]⟩ (.slice bo 1 cb) z → z.cell? a0 = some (.int .i64 (m0 : Int)) := by
    obtain ⟨ao, c0, e0, hk0⟩ := HD.out.kids
    injection e0 with e1 e2 e3
    subst e1
    obtain ⟨a0, ea0, _, _⟩ := hk0 0 (by simp)
    refine ⟨a0, ea0, fun z hz => ?_⟩
    obtain ⟨ao', c0', e0', hk0'⟩ := hz.nod.kids
    injection e0' with e1' e2' e3'
    subst e1'
    obtain ⟨a1, ea1, _, hz0⟩ := hk0' 0 (by simp)
    rw [ea0] at ea1
    cases ea1
    exact by simpa [go_sem] using hz0
  obtain ⟨a0, rfl, hK0⟩ := hkd0
  have HK := hide hK0
  have KS : Hid (∀ z, VB w (.slice (some a) ns.length c) mv pv ns ⟨15, num, nm, mo, it, [(m0 : Int)]⟩ (.slice (some a0) 1 cb) z → (z.cell? ⟨w.heap.size, 0, none⟩ = some (.slice (some a) ns.length c) ∧ z.cell? ⟨w.heap.size, 1, none⟩ = some mv ∧ z.cell? ⟨w.heap.size, 2, none⟩ = some pv ∧ z.cell? ⟨w.heap.size + 1, 2, none⟩ = some (.string nm) ∧ z.cell? ⟨w.heap.size + 1, 3, none⟩ = some (.string mo) ∧ z.cell? ⟨w.heap.size + 1, 4, none⟩ = some (.string it) ∧ z.cell? ⟨w.heap.size + 1, 5, none⟩ = some (.slice (some a0) 1 cb) ∧ z.cell? a0 = some (.int .i64 (m0 : Int)) ∧ Hid (VB w (.slice (some a) ns.length c) mv pv ns ⟨15, num, nm, mo, it, [(m0 : Int)]⟩ (.slice (some a0) 1 cb) z))) := fun z hz => ⟨hz.box.c0, hz.box.c1, hz.box.c2, hz.nod.c2, hz.nod.c3, hz.nod.c4, hz.nod.c5, (HK.out z hz), hz⟩
  have KN : Hid (∀ z, (z.cell? ⟨w.heap.size, 0, none⟩ = some (.slice (some a) ns.length c) ∧ z.cell? ⟨w.heap.size, 1, none⟩ = some mv ∧ z.cell? ⟨w.heap.size, 2, none⟩ = some pv ∧ z.cell? ⟨w.heap.size + 1, 2, none⟩ = some (.string nm) ∧ z.cell? ⟨w.heap.size + 1, 3, none⟩ = some (.string mo) ∧ z.cell? ⟨w.heap.size + 1, 4, none⟩ = some (.string it) ∧ z.cell? ⟨w.heap.size + 1, 5, none⟩ = some (.slice (some a0) 1 cb) ∧ z.cell? a0 = some (.int .i64 (m0 : Int)) ∧ Hid (VB w (.slice (some a) ns.length c) mv pv ns ⟨15, num, nm, mo, it, [(m0 : Int)]⟩ (.slice (some a0) 1 cb) z)) → NdsAt z (.slice (some a) ns.length c) ns) := fun z hz => hz.2.2.2.2.2.2.2.2.out.nds
  have KV : Hid (∀ z, (z.cell? ⟨w.heap.size, 0, none⟩ = some (.slice (some a) ns.length c) ∧ z.cell? ⟨w.heap.size, 1, none⟩ = some mv ∧ z.cell? ⟨w.heap.size, 2, none⟩ = some pv ∧ z.cell? ⟨w.heap.size + 1, 2, none⟩ = some (.string nm) ∧ z.cell? ⟨w.heap.size + 1, 3, none⟩ = some (.string mo) ∧ z.cell? ⟨w.heap.size + 1, 4, none⟩ = some (.string it) ∧ z.cell? ⟨w.heap.size + 1, 5, none⟩ = some (.slice (some a0) 1 cb) ∧ z.cell? a0 = some (.int .i64 (m0 : Int)) ∧ Hid (VB w (.slice (some a) ns.length c) mv pv ns ⟨15, num, nm, mo, it, [(m0 : Int)]⟩ (.slice (some a0) 1 cb) z)) → VB w (.slice (some a) ns.length c) mv pv ns ⟨15, num, nm, mo, it, [(m0 : Int)]⟩ (.slice (some a0) 1 cb) z) := fun z hz => hz.2.2.2.2.2.2.2.2.out
  have KP : Hid (∀ z z', (z.cell? ⟨w.heap.size, 0, none⟩ = some (.slice (some a) ns.length c) ∧ z.cell? ⟨w.heap.size, 1, none⟩ = some mv ∧ z.cell? ⟨w.heap.size, 2, none⟩ = some pv ∧ z.cell? ⟨w.heap.size + 1, 2, none⟩ = some (.string nm) ∧ z.cell? ⟨w.heap.size + 1, 3, none⟩ = some (.string mo) ∧ z.cell? ⟨w.heap.size + 1, 4, none⟩ = some (.string it) ∧ z.cell? ⟨w.heap.size + 1, 5, none⟩ = some (.slice (some a0) 1 cb) ∧ z.cell? a0 = some (.int .i64 (m0 : Int)) ∧ Hid (VB w (.slice (some a) ns.length c) mv pv ns ⟨15, num, nm, mo, it, [(m0 : Int)]⟩ (.slice (some a0) 1 cb) z)) → Below z.heap.size z z' → (z'.cell? ⟨w.heap.size, 0, none⟩ = some (.slice (some a) ns.length c) ∧ z'.cell? ⟨w.heap.size, 1, none⟩ = some mv ∧ z'.cell? ⟨w.heap.size, 2, none⟩ = some pv ∧ z'.cell? ⟨w.heap.size + 1, 2, none⟩ = some (.string nm) ∧ z'.cell? ⟨w.heap.size + 1, 3, none⟩ = some (.string mo) ∧ z'.cell? ⟨w.heap.size + 1, 4, none⟩ = some (.string it) ∧ z'.cell? ⟨w.heap.size + 1, 5, none⟩ = some (.slice (some a0) 1 cb) ∧ z'.cell? a0 = some (.int .i64 (m0 : Int)) ∧ Hid (VB w (.slice (some a) ns.length c) mv pv ns ⟨15, num, nm, mo, it, [(m0 : Int)]⟩ (.slice (some a0) 1 cb) z'))) := fun z z' h hb => KS.out z' (h.2.2.2.2.2.2.2.2.out.stays hb)
  clear hK0 HB HX2 HD HN2
  go_enter Tryz.func33, Tryz.ntmps33
  go_wp2_with fail
  generalize ((w.alloc (.cells #[.slice (some a) ns.length c, mv, pv] 34)).alloc (.cells #[.int .i64 15, .int .i64 num, .string nm, .string mo, .string it, .slice (some a0) 1 cb] 78)) = W2 at VW ⊢
  have K0 := hide (KS.out _ VW.out.drew)
  clear VW KS
  go_region_held3 (fun z => (z.cell? ⟨w.heap.size, 0, none⟩ = some (.slice (some a) ns.length c) ∧ z.cell? ⟨w.heap.size, 1, none⟩ = some mv ∧ z.cell? ⟨w.heap.size, 2, none⟩ = some pv ∧ z.cell? ⟨w.heap.size + 1, 2, none⟩ = some (.string nm) ∧ z.cell? ⟨w.heap.size + 1, 3, none⟩ = some (.string mo) ∧ z.cell? ⟨w.heap.size + 1, 4, none⟩ = some (.string it) ∧ z.cell? ⟨w.heap.size + 1, 5, none⟩ = some (.slice (some a0) 1 cb) ∧ z.cell? a0 = some (.int .i64 (m0 : Int)) ∧ Hid (VB w (.slice (some a) ns.length c) mv pv ns ⟨15, num, nm, mo, it, [(m0 : Int)]⟩ (.slice (some a0) 1 cb) z))) (first | exact K0.out | exact KP.out _ _ (by assumption) hb4) (((go_at_call 54; refine (unhide (C0 _ (KN.out _ (by assumption)))).mono ?_; rintro e w4 ⟨rfl, hb4⟩)))
  all_goals (have D := hide (KV.out _ (by assumption)))
  all_goals go_wp2
  all_goals go_ret
  all_goals exact ⟨rfl, D.out.bel⟩
set_option maxRecDepth 100000 in
set_option maxHeartbeats 4000000 in
theorem l07St_set {ns : List Nd} {dp : Nat → Nat} (hR : RightT ns dp) (d k : Nat) (h10 : d ≤ 10) (hk : k < ns.length) (hd : dp k ≤ d + 1) (hkd : ns[k].kind = 11) (hl : ns.length ≤ 1048576) (nv mv pv : Value)
    (ihB : ∀ (j : Nat) (w : World), j < ns.length → dp j ≤ d → (ns.getD j default).kind = 20 → NdsAt w nv ns → Calls Tryz.prog 14 #[.agg #[nv, mv, pv], .int .i64 (j : Int)] w fun e w' => e = .returned (.string (joinS (shS ns d j))) ∧ Below w.heap.size w w')
    (w : World) (hN : NdsAt w nv ns) : Calls Tryz.prog 33 #[.agg #[nv, mv, pv], .int .i64 (k : Int)] w fun e w' => e = .returned (.string (joinS (shS ns (d + 1) k))) ∧ Below w.heap.size w w' := by
  have hnode := hR.node k hk
  have hkid := hR.kid k hk
  rw [getD_at hk] at hnode hkid
  have hb1 : Below w.heap.size w (w.alloc (.cells #[nv, mv, pv] 34)) := (Below.refl _ _).alloc (Nat.le_refl _) _
  have HN := hide (hN.stays hb1)
  have HX := hide (Boxed.made w nv mv pv 34)
  obtain ⟨a, c, p, kv, rfl, hpa, hpb, hcell⟩ := HN.out.node k hk
  obtain ⟨d0, d1, d2, d3, d4, d5, hkids⟩ := hcell
  have HD := hide (NodAt.made _ ns[k] kv 78 hkids)
  have HB : Hid (Below w.heap.size w ((w.alloc (.cells #[.slice (some a) ns.length c, mv, pv] 34)).alloc (.cells #[.int .i64 ns[k].kind, .int .i64 ns[k].num, .string ns[k].name, .string ns[k].more, .string ns[k].into, kv] 78))) :=
    hb1.alloc hb1.size _
  have HN2 := hide (HN.out.stays ((Below.refl _ _).alloc (Nat.le_refl _) (.cells #[.int .i64 ns[k].kind, .int .i64 ns[k].num, .string ns[k].name, .string ns[k].more, .string ns[k].into, kv] 78)))
  have HX2 := hide (HX.out.stays ((Below.refl _ _).alloc (Nat.le_refl _) (.cells #[.int .i64 ns[k].kind, .int .i64 ns[k].num, .string ns[k].name, .string ns[k].more, .string ns[k].into, kv] 78)))
  have HH : Hid ((w.alloc (.cells #[.slice (some a) ns.length c, mv, pv] 34)).heap.size = w.heap.size + 1) := by show _ = _; simp
  rw [HH.out] at HD
  obtain ⟨bo, cb, rfl, _⟩ := hkids
  have hi0 : (0 : Int) ≤ (k : Int) := by omega
  have hi1 : (k : Int) < (ns.length : Int) := by omega
  have hklen : (kinds ns k).length = ns[k].kids.length := kinds_len hk
  have hKO := kids_of hnode hklen
  have hkin : kinds ns k = ns[k].kids.map (kidKind ns k) := by rw [kinds, getD_at hk]
  have hsh : shS ns (d + 1) k = signsN ns[k] (fun i => shS ns d (kidN ns[k] i)) (ns[k].kids.map fun y => shS ns d y.toNat) := by rw [shS, getD_at hk]
  have hFT := facts_of hnode
  obtain ⟨x, ex⟩ : ∃ x, ns[k] = x := ⟨_, rfl⟩
  rw [ex] at HD HB HN2 HX2 d0 d1 d2 d3 d4 d5 hkd hnode hkid hKO hsh hkin hFT
  obtain ⟨kd, num, nm, mo, it, ks⟩ := x
  dsimp only at HD HB HN2 HX2 d0 d1 d2 d3 d4 d5 hkd hkid hKO hkin hFT
  subst hkd
  have hkid2 : ∀ y ∈ ks, ∃ m : Nat, y = (m : Int) ∧ m < ns.length ∧ dp m ≤ d := fun y hy => by
    obtain ⟨a1, a2, a3⟩ := hkid y hy
    exact ⟨y.toNat, by omega, by omega, by omega⟩
  have hlen : ks.length = 1 := (by have := hKO.2.1 (by simp); exact this)
  obtain ⟨y0, rfl⟩ : ∃ y0, ks = [y0] := one_of hlen
  obtain ⟨m0, rfl, hm0, hd0⟩ := hkid2 y0 (List.mem_cons_self)
  have hq := kid_kinds (x := ⟨11, num, nm, mo, it, [(m0 : Int)]⟩) hkin hnode (fun y hy => ⟨(hkid y hy).1, (hkid y hy).2.1⟩)
  have q0 : valueQ (ns.getD m0 default).kind = true := hq.1 (by simp) 0 (m0 : Int) rfl rfl
  have s0 := shS_joined hR h10 hm0 hd0
  have n0 : shS ns d m0 ≠ [] := by
    have := (hR.deep m0 hm0).1
    obtain ⟨d', rfl⟩ : ∃ d', d = d' + 1 := ⟨d - 1, by omega⟩
    exact shS_ne ns d' m0
  have C0 := fun w h => hide (l07Value_any hR hl (.slice (some a) ns.length c) mv pv d h10 m0 w hm0 hd0 q0 h)
  have HT : Hid (joinS (shS ns (d + 1) k) = nm ++ ⟨#[32, 58, 61, 32]⟩ ++ joinS (shS ns d m0)) := by
    show _ = _
    rw [hsh]
    show joinS (nm :: tx ":=" :: shS ns d m0) = _
    rw [joinS_cons _ (by simp), joinS_cons _ n0]
    have c0 : ⟨#[32]⟩ ++ tx ":=" ++ ⟨#[32]⟩ = (⟨#[32, 58, 61, 32]⟩ : ByteArray) := by decide +kernel
    simp only [← c0, ByteArray.append_assoc]
  rw [HT.out]
  obtain ⟨t0, et0⟩ : ∃ t, t = joinS (shS ns d m0) := ⟨_, rfl⟩
  rw [← et0] at C0 s0 ⊢
  have hnm : nm.size ≤ 8 := hFT.1 (by simp [namedQ])
  have hc0 : ¬ 9223372036854775807 < nm.size + 4 := by omega
  have hc1 : ¬ 9223372036854775807 < nm.size + 4 + t0.size := by omega
  clear hsh hKO hkid hnode hR hkid2 HT hkin hFT ihB et0 n0 hm0 hd0 q0 hlen hq
  have VW : Hid (VB w (.slice (some a) ns.length c) mv pv ns ⟨11, num, nm, mo, it, [(m0 : Int)]⟩ (.slice bo 1 cb) ((w.alloc (.cells #[.slice (some a) ns.length c, mv, pv] 34)).alloc (.cells #[.int .i64 11, .int .i64 num, .string nm, .string mo, .string it, .slice bo 1 cb] 78))) := ⟨HB.out, HX2.out, HD.out, HN2.out⟩
  have hkd0 : ∃ a0, bo = some a0 ∧ ∀ z, VB w (.slice (some a) ns.length c) mv pv ns ⟨11, num, nm, mo, it, [(m0 : Int)]⟩ (.slice bo 1 cb) z → z.cell? a0 = some (.int .i64 (m0 : Int)) := by
    obtain ⟨ao, c0, e0, hk0⟩ := HD.out.kids
    injection e0 with e1 e2 e3
    subst e1
    obtain ⟨a0, ea0, _, _⟩ := hk0 0 (by simp)
    refine ⟨a0, ea0, fun z hz => ?_⟩
    obtain ⟨ao', c0', e0', hk0'⟩ := hz.nod.kids
    injection e0' with e1' e2' e3'
    subst e1'
    obtain ⟨a1, ea1, _, hz0⟩ := hk0' 0 (by simp)
    rw [ea0] at ea1
    cases ea1
    exact by simpa [go_sem] using hz0
  obtain ⟨a0, rfl, hK0⟩ := hkd0
  have HK := hide hK0
  have KS : Hid (∀ z, VB w (.slice (some a) ns.length c) mv pv ns ⟨11, num, nm, mo, it, [(m0 : Int)]⟩ (.slice (some a0) 1 cb) z → (z.cell? ⟨w.heap.size, 0, none⟩ = some (.slice (some a) ns.length c) ∧ z.cell? ⟨w.heap.size, 1, none⟩ = some mv ∧ z.cell? ⟨w.heap.size, 2, none⟩ = some pv ∧ z.cell? ⟨w.heap.size + 1, 2, none⟩ = some (.string nm) ∧ z.cell? ⟨w.heap.size + 1, 3, none⟩ = some (.string mo) ∧ z.cell? ⟨w.heap.size + 1, 4, none⟩ = some (.string it) ∧ z.cell? ⟨w.heap.size + 1, 5, none⟩ = some (.slice (some a0) 1 cb) ∧ z.cell? a0 = some (.int .i64 (m0 : Int)) ∧ Hid (VB w (.slice (some a) ns.length c) mv pv ns ⟨11, num, nm, mo, it, [(m0 : Int)]⟩ (.slice (some a0) 1 cb) z))) := fun z hz => ⟨hz.box.c0, hz.box.c1, hz.box.c2, hz.nod.c2, hz.nod.c3, hz.nod.c4, hz.nod.c5, (HK.out z hz), hz⟩
  have KN : Hid (∀ z, (z.cell? ⟨w.heap.size, 0, none⟩ = some (.slice (some a) ns.length c) ∧ z.cell? ⟨w.heap.size, 1, none⟩ = some mv ∧ z.cell? ⟨w.heap.size, 2, none⟩ = some pv ∧ z.cell? ⟨w.heap.size + 1, 2, none⟩ = some (.string nm) ∧ z.cell? ⟨w.heap.size + 1, 3, none⟩ = some (.string mo) ∧ z.cell? ⟨w.heap.size + 1, 4, none⟩ = some (.string it) ∧ z.cell? ⟨w.heap.size + 1, 5, none⟩ = some (.slice (some a0) 1 cb) ∧ z.cell? a0 = some (.int .i64 (m0 : Int)) ∧ Hid (VB w (.slice (some a) ns.length c) mv pv ns ⟨11, num, nm, mo, it, [(m0 : Int)]⟩ (.slice (some a0) 1 cb) z)) → NdsAt z (.slice (some a) ns.length c) ns) := fun z hz => hz.2.2.2.2.2.2.2.2.out.nds
  have KV : Hid (∀ z, (z.cell? ⟨w.heap.size, 0, none⟩ = some (.slice (some a) ns.length c) ∧ z.cell? ⟨w.heap.size, 1, none⟩ = some mv ∧ z.cell? ⟨w.heap.size, 2, none⟩ = some pv ∧ z.cell? ⟨w.heap.size + 1, 2, none⟩ = some (.string nm) ∧ z.cell? ⟨w.heap.size + 1, 3, none⟩ = some (.string mo) ∧ z.cell? ⟨w.heap.size + 1, 4, none⟩ = some (.string it) ∧ z.cell? ⟨w.heap.size + 1, 5, none⟩ = some (.slice (some a0) 1 cb) ∧ z.cell? a0 = some (.int .i64 (m0 : Int)) ∧ Hid (VB w (.slice (some a) ns.length c) mv pv ns ⟨11, num, nm, mo, it, [(m0 : Int)]⟩ (.slice (some a0) 1 cb) z)) → VB w (.slice (some a) ns.length c) mv pv ns ⟨11, num, nm, mo, it, [(m0 : Int)]⟩ (.slice (some a0) 1 cb) z) := fun z hz => hz.2.2.2.2.2.2.2.2.out
  have KP : Hid (∀ z z', (z.cell? ⟨w.heap.size, 0, none⟩ = some (.slice (some a) ns.length c) ∧ z.cell? ⟨w.heap.size, 1, none⟩ = some mv ∧ z.cell? ⟨w.heap.size, 2, none⟩ = some pv ∧ z.cell? ⟨w.heap.size + 1, 2, none⟩ = some (.string nm) ∧ z.cell? ⟨w.heap.size + 1, 3, none⟩ = some (.string mo) ∧ z.cell? ⟨w.heap.size + 1, 4, none⟩ = some (.string it) ∧ z.cell? ⟨w.heap.size + 1, 5, none⟩ = some (.slice (some a0) 1 cb) ∧ z.cell? a0 = some (.int .i64 (m0 : Int)) ∧ Hid (VB w (.slice (some a) ns.length c) mv pv ns ⟨11, num, nm, mo, it, [(m0 : Int)]⟩ (.slice (some a0) 1 cb) z)) → Below z.heap.size z z' → (z'.cell? ⟨w.heap.size, 0, none⟩ = some (.slice (some a) ns.length c) ∧ z'.cell? ⟨w.heap.size, 1, none⟩ = some mv ∧ z'.cell? ⟨w.heap.size, 2, none⟩ = some pv ∧ z'.cell? ⟨w.heap.size + 1, 2, none⟩ = some (.string nm) ∧ z'.cell? ⟨w.heap.size + 1, 3, none⟩ = some (.string mo) ∧ z'.cell? ⟨w.heap.size + 1, 4, none⟩ = some (.string it) ∧ z'.cell? ⟨w.heap.size + 1, 5, none⟩ = some (.slice (some a0) 1 cb) ∧ z'.cell? a0 = some (.int .i64 (m0 : Int)) ∧ Hid (VB w (.slice (some a) ns.length c) mv pv ns ⟨11, num, nm, mo, it, [(m0 : Int)]⟩ (.slice (some a0) 1 cb) z'))) := fun z z' h hb => KS.out z' (h.2.2.2.2.2.2.2.2.out.stays hb)
  clear hK0 HB HX2 HD HN2
  go_enter Tryz.func33, Tryz.ntmps33
  go_wp2_with fail
  generalize ((w.alloc (.cells #[.slice (some a) ns.length c, mv, pv] 34)).alloc (.cells #[.int .i64 11, .int .i64 num, .string nm, .string mo, .string it, .slice (some a0) 1 cb] 78)) = W2 at VW ⊢
  have K0 := hide (KS.out _ VW.out.drew)
  clear VW KS
  go_region_held3 (fun z => (z.cell? ⟨w.heap.size, 0, none⟩ = some (.slice (some a) ns.length c) ∧ z.cell? ⟨w.heap.size, 1, none⟩ = some mv ∧ z.cell? ⟨w.heap.size, 2, none⟩ = some pv ∧ z.cell? ⟨w.heap.size + 1, 2, none⟩ = some (.string nm) ∧ z.cell? ⟨w.heap.size + 1, 3, none⟩ = some (.string mo) ∧ z.cell? ⟨w.heap.size + 1, 4, none⟩ = some (.string it) ∧ z.cell? ⟨w.heap.size + 1, 5, none⟩ = some (.slice (some a0) 1 cb) ∧ z.cell? a0 = some (.int .i64 (m0 : Int)) ∧ Hid (VB w (.slice (some a) ns.length c) mv pv ns ⟨11, num, nm, mo, it, [(m0 : Int)]⟩ (.slice (some a0) 1 cb) z))) (first | exact K0.out | exact KP.out _ _ (by assumption) hb4) (((go_at_call 54; refine (unhide (C0 _ (KN.out _ (by assumption)))).mono ?_; rintro e w4 ⟨rfl, hb4⟩)))
  all_goals (have D := hide (KV.out _ (by assumption)))
  all_goals go_wp2
  all_goals go_ret
  all_goals exact ⟨rfl, D.out.bel⟩
set_option maxRecDepth 100000 in
set_option maxHeartbeats 4000000 in
theorem l07St_while {ns : List Nd} {dp : Nat → Nat} (hR : RightT ns dp) (d k : Nat) (h10 : d ≤ 10) (hk : k < ns.length) (hd : dp k ≤ d + 1) (hkd : ns[k].kind = 13) (hl : ns.length ≤ 1048576) (nv mv pv : Value)
    (ihB : ∀ (j : Nat) (w : World), j < ns.length → dp j ≤ d → (ns.getD j default).kind = 20 → NdsAt w nv ns → Calls Tryz.prog 14 #[.agg #[nv, mv, pv], .int .i64 (j : Int)] w fun e w' => e = .returned (.string (joinS (shS ns d j))) ∧ Below w.heap.size w w')
    (w : World) (hN : NdsAt w nv ns) : Calls Tryz.prog 33 #[.agg #[nv, mv, pv], .int .i64 (k : Int)] w fun e w' => e = .returned (.string (joinS (shS ns (d + 1) k))) ∧ Below w.heap.size w w' := by
  have hnode := hR.node k hk
  have hkid := hR.kid k hk
  rw [getD_at hk] at hnode hkid
  have hb1 : Below w.heap.size w (w.alloc (.cells #[nv, mv, pv] 34)) := (Below.refl _ _).alloc (Nat.le_refl _) _
  have HN := hide (hN.stays hb1)
  have HX := hide (Boxed.made w nv mv pv 34)
  obtain ⟨a, c, p, kv, rfl, hpa, hpb, hcell⟩ := HN.out.node k hk
  obtain ⟨d0, d1, d2, d3, d4, d5, hkids⟩ := hcell
  have HD := hide (NodAt.made _ ns[k] kv 78 hkids)
  have HB : Hid (Below w.heap.size w ((w.alloc (.cells #[.slice (some a) ns.length c, mv, pv] 34)).alloc (.cells #[.int .i64 ns[k].kind, .int .i64 ns[k].num, .string ns[k].name, .string ns[k].more, .string ns[k].into, kv] 78))) :=
    hb1.alloc hb1.size _
  have HN2 := hide (HN.out.stays ((Below.refl _ _).alloc (Nat.le_refl _) (.cells #[.int .i64 ns[k].kind, .int .i64 ns[k].num, .string ns[k].name, .string ns[k].more, .string ns[k].into, kv] 78)))
  have HX2 := hide (HX.out.stays ((Below.refl _ _).alloc (Nat.le_refl _) (.cells #[.int .i64 ns[k].kind, .int .i64 ns[k].num, .string ns[k].name, .string ns[k].more, .string ns[k].into, kv] 78)))
  have HH : Hid ((w.alloc (.cells #[.slice (some a) ns.length c, mv, pv] 34)).heap.size = w.heap.size + 1) := by show _ = _; simp
  rw [HH.out] at HD
  obtain ⟨bo, cb, rfl, _⟩ := hkids
  have hi0 : (0 : Int) ≤ (k : Int) := by omega
  have hi1 : (k : Int) < (ns.length : Int) := by omega
  have hklen : (kinds ns k).length = ns[k].kids.length := kinds_len hk
  have hKO := kids_of hnode hklen
  have hkin : kinds ns k = ns[k].kids.map (kidKind ns k) := by rw [kinds, getD_at hk]
  have hsh : shS ns (d + 1) k = signsN ns[k] (fun i => shS ns d (kidN ns[k] i)) (ns[k].kids.map fun y => shS ns d y.toNat) := by rw [shS, getD_at hk]
  have hFT := facts_of hnode
  obtain ⟨x, ex⟩ : ∃ x, ns[k] = x := ⟨_, rfl⟩
  rw [ex] at HD HB HN2 HX2 d0 d1 d2 d3 d4 d5 hkd hnode hkid hKO hsh hkin hFT
  obtain ⟨kd, num, nm, mo, it, ks⟩ := x
  dsimp only at HD HB HN2 HX2 d0 d1 d2 d3 d4 d5 hkd hkid hKO hkin hFT
  subst hkd
  have hkid2 : ∀ y ∈ ks, ∃ m : Nat, y = (m : Int) ∧ m < ns.length ∧ dp m ≤ d := fun y hy => by
    obtain ⟨a1, a2, a3⟩ := hkid y hy
    exact ⟨y.toNat, by omega, by omega, by omega⟩
  have hlen : ks.length = 2 := (by have := hKO.2.2.2.1 rfl; exact this)
  obtain ⟨y0, y1, rfl⟩ : ∃ y0 y1, ks = [y0, y1] := two_of hlen
  obtain ⟨m0, rfl, hm0, hd0⟩ := hkid2 y0 (List.mem_cons_self)
  obtain ⟨m1, rfl, hm1, hd1⟩ := hkid2 y1 (List.mem_cons_of_mem _ (List.mem_cons_self))
  have hq := kid_kinds (x := ⟨13, num, nm, mo, it, [(m0 : Int), (m1 : Int)]⟩) hkin hnode (fun y hy => ⟨(hkid y hy).1, (hkid y hy).2.1⟩)
  have q0 : valueQ (ns.getD m0 default).kind = true := hq.1 (by simp) 0 (m0 : Int) rfl rfl
  have q1 : (ns.getD m1 default).kind = 20 := hq.2 (by simp) 1 (m1 : Int) rfl (by decide)
  have s0 := shS_joined hR h10 hm0 hd0
  have n0 : shS ns d m0 ≠ [] := by
    have := (hR.deep m0 hm0).1
    obtain ⟨d', rfl⟩ : ∃ d', d = d' + 1 := ⟨d - 1, by omega⟩
    exact shS_ne ns d' m0
  have C0 := fun w h => hide (l07Value_any hR hl (.slice (some a) ns.length c) mv pv d h10 m0 w hm0 hd0 q0 h)
  have s1 := shS_joined hR h10 hm1 hd1
  have n1 : shS ns d m1 ≠ [] := by
    have := (hR.deep m1 hm1).1
    obtain ⟨d', rfl⟩ : ∃ d', d = d' + 1 := ⟨d - 1, by omega⟩
    exact shS_ne ns d' m1
  have C1 := fun w h => hide (ihB m1 w hm1 hd1 q1 h)
  have HT : Hid (joinS (shS ns (d + 1) k) = ⟨#[119, 104, 105, 108, 101, 32]⟩ ++ joinS (shS ns d m0) ++ ⟨#[32, 100, 111, 32]⟩ ++ joinS (shS ns d m1)) := by
    show _ = _
    rw [hsh]
    show joinS (tx "while" :: (shS ns d m0 ++ tx "do" :: shS ns d m1)) = _
    rw [joinS_cons _ (by simp), joinS_app n0 (by simp), joinS_cons _ n1]
    have c0 : tx "while" ++ ⟨#[32]⟩ = (⟨#[119, 104, 105, 108, 101, 32]⟩ : ByteArray) := by decide +kernel
    have c1 : ⟨#[32]⟩ ++ tx "do" ++ ⟨#[32]⟩ = (⟨#[32, 100, 111, 32]⟩ : ByteArray) := by decide +kernel
    simp only [← c0, ← c1, ByteArray.append_assoc]
  rw [HT.out]
  obtain ⟨t0, et0⟩ : ∃ t, t = joinS (shS ns d m0) := ⟨_, rfl⟩
  rw [← et0] at C0 s0 ⊢
  obtain ⟨t1, et1⟩ : ∃ t, t = joinS (shS ns d m1) := ⟨_, rfl⟩
  rw [← et1] at C1 s1 ⊢
  have hc0 : ¬ 9223372036854775807 < 6 + t0.size := by omega
  have hc1 : ¬ 9223372036854775807 < 6 + t0.size + 4 := by omega
  have hc2 : ¬ 9223372036854775807 < 6 + t0.size + 4 + t1.size := by omega
  clear hsh hKO hkid hnode hR hkid2 HT hkin hFT ihB et0 n0 hm0 hd0 q0 et1 n1 hm1 hd1 q1 hlen hq
  have VW : Hid (VB w (.slice (some a) ns.length c) mv pv ns ⟨13, num, nm, mo, it, [(m0 : Int), (m1 : Int)]⟩ (.slice bo 2 cb) ((w.alloc (.cells #[.slice (some a) ns.length c, mv, pv] 34)).alloc (.cells #[.int .i64 13, .int .i64 num, .string nm, .string mo, .string it, .slice bo 2 cb] 78))) := ⟨HB.out, HX2.out, HD.out, HN2.out⟩
  have hkd0 : ∃ a0, bo = some a0 ∧ ∀ z, VB w (.slice (some a) ns.length c) mv pv ns ⟨13, num, nm, mo, it, [(m0 : Int), (m1 : Int)]⟩ (.slice bo 2 cb) z → z.cell? a0 = some (.int .i64 (m0 : Int)) ∧ z.cell? { block := a0.block, off := a0.off + 1 } = some (.int .i64 (m1 : Int)) := by
    obtain ⟨ao, c0, e0, hk0⟩ := HD.out.kids
    injection e0 with e1 e2 e3
    subst e1
    obtain ⟨a0, ea0, _, _⟩ := hk0 0 (by simp)
    refine ⟨a0, ea0, fun z hz => ?_⟩
    obtain ⟨ao', c0', e0', hk0'⟩ := hz.nod.kids
    injection e0' with e1' e2' e3'
    subst e1'
    obtain ⟨a1, ea1, _, hz0⟩ := hk0' 0 (by simp)
    obtain ⟨a2, ea2, _, hz1⟩ := hk0' 1 (by simp)
    rw [ea0] at ea1 ea2
    cases ea1
    cases ea2
    exact ⟨by simpa [go_sem] using hz0, by simpa [go_sem] using hz1⟩
  obtain ⟨a0, rfl, hK0⟩ := hkd0
  have HK := hide hK0
  have KS : Hid (∀ z, VB w (.slice (some a) ns.length c) mv pv ns ⟨13, num, nm, mo, it, [(m0 : Int), (m1 : Int)]⟩ (.slice (some a0) 2 cb) z → (z.cell? ⟨w.heap.size, 0, none⟩ = some (.slice (some a) ns.length c) ∧ z.cell? ⟨w.heap.size, 1, none⟩ = some mv ∧ z.cell? ⟨w.heap.size, 2, none⟩ = some pv ∧ z.cell? ⟨w.heap.size + 1, 2, none⟩ = some (.string nm) ∧ z.cell? ⟨w.heap.size + 1, 3, none⟩ = some (.string mo) ∧ z.cell? ⟨w.heap.size + 1, 4, none⟩ = some (.string it) ∧ z.cell? ⟨w.heap.size + 1, 5, none⟩ = some (.slice (some a0) 2 cb) ∧ z.cell? a0 = some (.int .i64 (m0 : Int)) ∧ z.cell? { block := a0.block, off := a0.off + 1 } = some (.int .i64 (m1 : Int)) ∧ Hid (VB w (.slice (some a) ns.length c) mv pv ns ⟨13, num, nm, mo, it, [(m0 : Int), (m1 : Int)]⟩ (.slice (some a0) 2 cb) z))) := fun z hz => ⟨hz.box.c0, hz.box.c1, hz.box.c2, hz.nod.c2, hz.nod.c3, hz.nod.c4, hz.nod.c5, (HK.out z hz).1, (HK.out z hz).2, hz⟩
  have KN : Hid (∀ z, (z.cell? ⟨w.heap.size, 0, none⟩ = some (.slice (some a) ns.length c) ∧ z.cell? ⟨w.heap.size, 1, none⟩ = some mv ∧ z.cell? ⟨w.heap.size, 2, none⟩ = some pv ∧ z.cell? ⟨w.heap.size + 1, 2, none⟩ = some (.string nm) ∧ z.cell? ⟨w.heap.size + 1, 3, none⟩ = some (.string mo) ∧ z.cell? ⟨w.heap.size + 1, 4, none⟩ = some (.string it) ∧ z.cell? ⟨w.heap.size + 1, 5, none⟩ = some (.slice (some a0) 2 cb) ∧ z.cell? a0 = some (.int .i64 (m0 : Int)) ∧ z.cell? { block := a0.block, off := a0.off + 1 } = some (.int .i64 (m1 : Int)) ∧ Hid (VB w (.slice (some a) ns.length c) mv pv ns ⟨13, num, nm, mo, it, [(m0 : Int), (m1 : Int)]⟩ (.slice (some a0) 2 cb) z)) → NdsAt z (.slice (some a) ns.length c) ns) := fun z hz => hz.2.2.2.2.2.2.2.2.2.out.nds
  have KV : Hid (∀ z, (z.cell? ⟨w.heap.size, 0, none⟩ = some (.slice (some a) ns.length c) ∧ z.cell? ⟨w.heap.size, 1, none⟩ = some mv ∧ z.cell? ⟨w.heap.size, 2, none⟩ = some pv ∧ z.cell? ⟨w.heap.size + 1, 2, none⟩ = some (.string nm) ∧ z.cell? ⟨w.heap.size + 1, 3, none⟩ = some (.string mo) ∧ z.cell? ⟨w.heap.size + 1, 4, none⟩ = some (.string it) ∧ z.cell? ⟨w.heap.size + 1, 5, none⟩ = some (.slice (some a0) 2 cb) ∧ z.cell? a0 = some (.int .i64 (m0 : Int)) ∧ z.cell? { block := a0.block, off := a0.off + 1 } = some (.int .i64 (m1 : Int)) ∧ Hid (VB w (.slice (some a) ns.length c) mv pv ns ⟨13, num, nm, mo, it, [(m0 : Int), (m1 : Int)]⟩ (.slice (some a0) 2 cb) z)) → VB w (.slice (some a) ns.length c) mv pv ns ⟨13, num, nm, mo, it, [(m0 : Int), (m1 : Int)]⟩ (.slice (some a0) 2 cb) z) := fun z hz => hz.2.2.2.2.2.2.2.2.2.out
  have KP : Hid (∀ z z', (z.cell? ⟨w.heap.size, 0, none⟩ = some (.slice (some a) ns.length c) ∧ z.cell? ⟨w.heap.size, 1, none⟩ = some mv ∧ z.cell? ⟨w.heap.size, 2, none⟩ = some pv ∧ z.cell? ⟨w.heap.size + 1, 2, none⟩ = some (.string nm) ∧ z.cell? ⟨w.heap.size + 1, 3, none⟩ = some (.string mo) ∧ z.cell? ⟨w.heap.size + 1, 4, none⟩ = some (.string it) ∧ z.cell? ⟨w.heap.size + 1, 5, none⟩ = some (.slice (some a0) 2 cb) ∧ z.cell? a0 = some (.int .i64 (m0 : Int)) ∧ z.cell? { block := a0.block, off := a0.off + 1 } = some (.int .i64 (m1 : Int)) ∧ Hid (VB w (.slice (some a) ns.length c) mv pv ns ⟨13, num, nm, mo, it, [(m0 : Int), (m1 : Int)]⟩ (.slice (some a0) 2 cb) z)) → Below z.heap.size z z' → (z'.cell? ⟨w.heap.size, 0, none⟩ = some (.slice (some a) ns.length c) ∧ z'.cell? ⟨w.heap.size, 1, none⟩ = some mv ∧ z'.cell? ⟨w.heap.size, 2, none⟩ = some pv ∧ z'.cell? ⟨w.heap.size + 1, 2, none⟩ = some (.string nm) ∧ z'.cell? ⟨w.heap.size + 1, 3, none⟩ = some (.string mo) ∧ z'.cell? ⟨w.heap.size + 1, 4, none⟩ = some (.string it) ∧ z'.cell? ⟨w.heap.size + 1, 5, none⟩ = some (.slice (some a0) 2 cb) ∧ z'.cell? a0 = some (.int .i64 (m0 : Int)) ∧ z'.cell? { block := a0.block, off := a0.off + 1 } = some (.int .i64 (m1 : Int)) ∧ Hid (VB w (.slice (some a) ns.length c) mv pv ns ⟨13, num, nm, mo, it, [(m0 : Int), (m1 : Int)]⟩ (.slice (some a0) 2 cb) z'))) := fun z z' h hb => KS.out z' (h.2.2.2.2.2.2.2.2.2.out.stays hb)
  clear hK0 HB HX2 HD HN2
  go_enter Tryz.func33, Tryz.ntmps33
  go_wp2_with fail
  generalize ((w.alloc (.cells #[.slice (some a) ns.length c, mv, pv] 34)).alloc (.cells #[.int .i64 13, .int .i64 num, .string nm, .string mo, .string it, .slice (some a0) 2 cb] 78)) = W2 at VW ⊢
  have K0 := hide (KS.out _ VW.out.drew)
  clear VW KS
  go_region_held3 (fun z => (z.cell? ⟨w.heap.size, 0, none⟩ = some (.slice (some a) ns.length c) ∧ z.cell? ⟨w.heap.size, 1, none⟩ = some mv ∧ z.cell? ⟨w.heap.size, 2, none⟩ = some pv ∧ z.cell? ⟨w.heap.size + 1, 2, none⟩ = some (.string nm) ∧ z.cell? ⟨w.heap.size + 1, 3, none⟩ = some (.string mo) ∧ z.cell? ⟨w.heap.size + 1, 4, none⟩ = some (.string it) ∧ z.cell? ⟨w.heap.size + 1, 5, none⟩ = some (.slice (some a0) 2 cb) ∧ z.cell? a0 = some (.int .i64 (m0 : Int)) ∧ z.cell? { block := a0.block, off := a0.off + 1 } = some (.int .i64 (m1 : Int)) ∧ Hid (VB w (.slice (some a) ns.length c) mv pv ns ⟨13, num, nm, mo, it, [(m0 : Int), (m1 : Int)]⟩ (.slice (some a0) 2 cb) z))) (first | exact K0.out | exact KP.out _ _ (by assumption) hb4) (((first | (go_at_call 54; refine (unhide (C0 _ (KN.out _ (by assumption)))).mono ?_; rintro e w4 ⟨rfl, hb4⟩) | (go_at_call 14; refine (unhide (C1 _ (KN.out _ (by assumption)))).mono ?_; rintro e w4 ⟨rfl, hb4⟩))))
  all_goals (have D := hide (KV.out _ (by assumption)))
  all_goals go_wp2
  all_goals go_ret
  all_goals exact ⟨rfl, D.out.bel⟩
set_option maxRecDepth 100000 in
set_option maxHeartbeats 4000000 in
theorem l07St_if2 {ns : List Nd} {dp : Nat → Nat} (hR : RightT ns dp) (d k : Nat) (h10 : d ≤ 10) (hk : k < ns.length) (hd : dp k ≤ d + 1) (hkd : ns[k].kind = 12) (hkl : ns[k].kids.length = 2) (hl : ns.length ≤ 1048576) (nv mv pv : Value)
    (ihB : ∀ (j : Nat) (w : World), j < ns.length → dp j ≤ d → (ns.getD j default).kind = 20 → NdsAt w nv ns → Calls Tryz.prog 14 #[.agg #[nv, mv, pv], .int .i64 (j : Int)] w fun e w' => e = .returned (.string (joinS (shS ns d j))) ∧ Below w.heap.size w w')
    (w : World) (hN : NdsAt w nv ns) : Calls Tryz.prog 33 #[.agg #[nv, mv, pv], .int .i64 (k : Int)] w fun e w' => e = .returned (.string (joinS (shS ns (d + 1) k))) ∧ Below w.heap.size w w' := by
  have hnode := hR.node k hk
  have hkid := hR.kid k hk
  rw [getD_at hk] at hnode hkid
  have hb1 : Below w.heap.size w (w.alloc (.cells #[nv, mv, pv] 34)) := (Below.refl _ _).alloc (Nat.le_refl _) _
  have HN := hide (hN.stays hb1)
  have HX := hide (Boxed.made w nv mv pv 34)
  obtain ⟨a, c, p, kv, rfl, hpa, hpb, hcell⟩ := HN.out.node k hk
  obtain ⟨d0, d1, d2, d3, d4, d5, hkids⟩ := hcell
  have HD := hide (NodAt.made _ ns[k] kv 78 hkids)
  have HB : Hid (Below w.heap.size w ((w.alloc (.cells #[.slice (some a) ns.length c, mv, pv] 34)).alloc (.cells #[.int .i64 ns[k].kind, .int .i64 ns[k].num, .string ns[k].name, .string ns[k].more, .string ns[k].into, kv] 78))) :=
    hb1.alloc hb1.size _
  have HN2 := hide (HN.out.stays ((Below.refl _ _).alloc (Nat.le_refl _) (.cells #[.int .i64 ns[k].kind, .int .i64 ns[k].num, .string ns[k].name, .string ns[k].more, .string ns[k].into, kv] 78)))
  have HX2 := hide (HX.out.stays ((Below.refl _ _).alloc (Nat.le_refl _) (.cells #[.int .i64 ns[k].kind, .int .i64 ns[k].num, .string ns[k].name, .string ns[k].more, .string ns[k].into, kv] 78)))
  have HH : Hid ((w.alloc (.cells #[.slice (some a) ns.length c, mv, pv] 34)).heap.size = w.heap.size + 1) := by show _ = _; simp
  rw [HH.out] at HD
  obtain ⟨bo, cb, rfl, _⟩ := hkids
  have hi0 : (0 : Int) ≤ (k : Int) := by omega
  have hi1 : (k : Int) < (ns.length : Int) := by omega
  have hklen : (kinds ns k).length = ns[k].kids.length := kinds_len hk
  have hKO := kids_of hnode hklen
  have hkin : kinds ns k = ns[k].kids.map (kidKind ns k) := by rw [kinds, getD_at hk]
  have hsh : shS ns (d + 1) k = signsN ns[k] (fun i => shS ns d (kidN ns[k] i)) (ns[k].kids.map fun y => shS ns d y.toNat) := by rw [shS, getD_at hk]
  have hFT := facts_of hnode
  obtain ⟨x, ex⟩ : ∃ x, ns[k] = x := ⟨_, rfl⟩
  rw [ex] at HD HB HN2 HX2 d0 d1 d2 d3 d4 d5 hkd hkl hnode hkid hKO hsh hkin hFT
  obtain ⟨kd, num, nm, mo, it, ks⟩ := x
  dsimp only at HD HB HN2 HX2 d0 d1 d2 d3 d4 d5 hkd hkl hkid hKO hkin hFT
  subst hkd
  have hkid2 : ∀ y ∈ ks, ∃ m : Nat, y = (m : Int) ∧ m < ns.length ∧ dp m ≤ d := fun y hy => by
    obtain ⟨a1, a2, a3⟩ := hkid y hy
    exact ⟨y.toNat, by omega, by omega, by omega⟩
  have hlen : ks.length = 2 := hkl
  obtain ⟨y0, y1, rfl⟩ : ∃ y0 y1, ks = [y0, y1] := two_of hlen
  obtain ⟨m0, rfl, hm0, hd0⟩ := hkid2 y0 (List.mem_cons_self)
  obtain ⟨m1, rfl, hm1, hd1⟩ := hkid2 y1 (List.mem_cons_of_mem _ (List.mem_cons_self))
  have hq := kid_kinds (x := ⟨12, num, nm, mo, it, [(m0 : Int), (m1 : Int)]⟩) hkin hnode (fun y hy => ⟨(hkid y hy).1, (hkid y hy).2.1⟩)
  have q0 : valueQ (ns.getD m0 default).kind = true := hq.1 (by simp) 0 (m0 : Int) rfl rfl
  have q1 : (ns.getD m1 default).kind = 20 := hq.2 (by simp) 1 (m1 : Int) rfl (by decide)
  have s0 := shS_joined hR h10 hm0 hd0
  have n0 : shS ns d m0 ≠ [] := by
    have := (hR.deep m0 hm0).1
    obtain ⟨d', rfl⟩ : ∃ d', d = d' + 1 := ⟨d - 1, by omega⟩
    exact shS_ne ns d' m0
  have C0 := fun w h => hide (l07Value_any hR hl (.slice (some a) ns.length c) mv pv d h10 m0 w hm0 hd0 q0 h)
  have s1 := shS_joined hR h10 hm1 hd1
  have n1 : shS ns d m1 ≠ [] := by
    have := (hR.deep m1 hm1).1
    obtain ⟨d', rfl⟩ : ∃ d', d = d' + 1 := ⟨d - 1, by omega⟩
    exact shS_ne ns d' m1
  have C1 := fun w h => hide (ihB m1 w hm1 hd1 q1 h)
  have HT : Hid (joinS (shS ns (d + 1) k) = ⟨#[105, 102, 32]⟩ ++ joinS (shS ns d m0) ++ ⟨#[32, 116, 104, 101, 110, 32]⟩ ++ joinS (shS ns d m1)) := by
    show _ = _
    rw [hsh]
    show joinS (tx "if" :: (shS ns d m0 ++ tx "then" :: (shS ns d m1 ++ []))) = _
    rw [List.append_nil, joinS_cons _ (by simp), joinS_app n0 (by simp), joinS_cons _ n1]
    have c0 : tx "if" ++ ⟨#[32]⟩ = (⟨#[105, 102, 32]⟩ : ByteArray) := by decide +kernel
    have c1 : ⟨#[32]⟩ ++ tx "then" ++ ⟨#[32]⟩ = (⟨#[32, 116, 104, 101, 110, 32]⟩ : ByteArray) := by decide +kernel
    simp only [← c0, ← c1, ByteArray.append_assoc]
  rw [HT.out]
  obtain ⟨t0, et0⟩ : ∃ t, t = joinS (shS ns d m0) := ⟨_, rfl⟩
  rw [← et0] at C0 s0 ⊢
  obtain ⟨t1, et1⟩ : ∃ t, t = joinS (shS ns d m1) := ⟨_, rfl⟩
  rw [← et1] at C1 s1 ⊢
  have hc0 : ¬ 9223372036854775807 < 3 + t0.size := by omega
  have hc1 : ¬ 9223372036854775807 < 3 + t0.size + 6 := by omega
  have hc2 : ¬ 9223372036854775807 < 3 + t0.size + 6 + t1.size := by omega
  clear hsh hKO hkid hnode hR hkid2 HT hkin hFT ihB et0 n0 hm0 hd0 q0 et1 n1 hm1 hd1 q1 hlen hq hkl
  have VW : Hid (VB w (.slice (some a) ns.length c) mv pv ns ⟨12, num, nm, mo, it, [(m0 : Int), (m1 : Int)]⟩ (.slice bo 2 cb) ((w.alloc (.cells #[.slice (some a) ns.length c, mv, pv] 34)).alloc (.cells #[.int .i64 12, .int .i64 num, .string nm, .string mo, .string it, .slice bo 2 cb] 78))) := ⟨HB.out, HX2.out, HD.out, HN2.out⟩
  have hkd0 : ∃ a0, bo = some a0 ∧ ∀ z, VB w (.slice (some a) ns.length c) mv pv ns ⟨12, num, nm, mo, it, [(m0 : Int), (m1 : Int)]⟩ (.slice bo 2 cb) z → z.cell? a0 = some (.int .i64 (m0 : Int)) ∧ z.cell? { block := a0.block, off := a0.off + 1 } = some (.int .i64 (m1 : Int)) := by
    obtain ⟨ao, c0, e0, hk0⟩ := HD.out.kids
    injection e0 with e1 e2 e3
    subst e1
    obtain ⟨a0, ea0, _, _⟩ := hk0 0 (by simp)
    refine ⟨a0, ea0, fun z hz => ?_⟩
    obtain ⟨ao', c0', e0', hk0'⟩ := hz.nod.kids
    injection e0' with e1' e2' e3'
    subst e1'
    obtain ⟨a1, ea1, _, hz0⟩ := hk0' 0 (by simp)
    obtain ⟨a2, ea2, _, hz1⟩ := hk0' 1 (by simp)
    rw [ea0] at ea1 ea2
    cases ea1
    cases ea2
    exact ⟨by simpa [go_sem] using hz0, by simpa [go_sem] using hz1⟩
  obtain ⟨a0, rfl, hK0⟩ := hkd0
  have HK := hide hK0
  have KS : Hid (∀ z, VB w (.slice (some a) ns.length c) mv pv ns ⟨12, num, nm, mo, it, [(m0 : Int), (m1 : Int)]⟩ (.slice (some a0) 2 cb) z → (z.cell? ⟨w.heap.size, 0, none⟩ = some (.slice (some a) ns.length c) ∧ z.cell? ⟨w.heap.size, 1, none⟩ = some mv ∧ z.cell? ⟨w.heap.size, 2, none⟩ = some pv ∧ z.cell? ⟨w.heap.size + 1, 2, none⟩ = some (.string nm) ∧ z.cell? ⟨w.heap.size + 1, 3, none⟩ = some (.string mo) ∧ z.cell? ⟨w.heap.size + 1, 4, none⟩ = some (.string it) ∧ z.cell? ⟨w.heap.size + 1, 5, none⟩ = some (.slice (some a0) 2 cb) ∧ z.cell? a0 = some (.int .i64 (m0 : Int)) ∧ z.cell? { block := a0.block, off := a0.off + 1 } = some (.int .i64 (m1 : Int)) ∧ Hid (VB w (.slice (some a) ns.length c) mv pv ns ⟨12, num, nm, mo, it, [(m0 : Int), (m1 : Int)]⟩ (.slice (some a0) 2 cb) z))) := fun z hz => ⟨hz.box.c0, hz.box.c1, hz.box.c2, hz.nod.c2, hz.nod.c3, hz.nod.c4, hz.nod.c5, (HK.out z hz).1, (HK.out z hz).2, hz⟩
  have KN : Hid (∀ z, (z.cell? ⟨w.heap.size, 0, none⟩ = some (.slice (some a) ns.length c) ∧ z.cell? ⟨w.heap.size, 1, none⟩ = some mv ∧ z.cell? ⟨w.heap.size, 2, none⟩ = some pv ∧ z.cell? ⟨w.heap.size + 1, 2, none⟩ = some (.string nm) ∧ z.cell? ⟨w.heap.size + 1, 3, none⟩ = some (.string mo) ∧ z.cell? ⟨w.heap.size + 1, 4, none⟩ = some (.string it) ∧ z.cell? ⟨w.heap.size + 1, 5, none⟩ = some (.slice (some a0) 2 cb) ∧ z.cell? a0 = some (.int .i64 (m0 : Int)) ∧ z.cell? { block := a0.block, off := a0.off + 1 } = some (.int .i64 (m1 : Int)) ∧ Hid (VB w (.slice (some a) ns.length c) mv pv ns ⟨12, num, nm, mo, it, [(m0 : Int), (m1 : Int)]⟩ (.slice (some a0) 2 cb) z)) → NdsAt z (.slice (some a) ns.length c) ns) := fun z hz => hz.2.2.2.2.2.2.2.2.2.out.nds
  have KV : Hid (∀ z, (z.cell? ⟨w.heap.size, 0, none⟩ = some (.slice (some a) ns.length c) ∧ z.cell? ⟨w.heap.size, 1, none⟩ = some mv ∧ z.cell? ⟨w.heap.size, 2, none⟩ = some pv ∧ z.cell? ⟨w.heap.size + 1, 2, none⟩ = some (.string nm) ∧ z.cell? ⟨w.heap.size + 1, 3, none⟩ = some (.string mo) ∧ z.cell? ⟨w.heap.size + 1, 4, none⟩ = some (.string it) ∧ z.cell? ⟨w.heap.size + 1, 5, none⟩ = some (.slice (some a0) 2 cb) ∧ z.cell? a0 = some (.int .i64 (m0 : Int)) ∧ z.cell? { block := a0.block, off := a0.off + 1 } = some (.int .i64 (m1 : Int)) ∧ Hid (VB w (.slice (some a) ns.length c) mv pv ns ⟨12, num, nm, mo, it, [(m0 : Int), (m1 : Int)]⟩ (.slice (some a0) 2 cb) z)) → VB w (.slice (some a) ns.length c) mv pv ns ⟨12, num, nm, mo, it, [(m0 : Int), (m1 : Int)]⟩ (.slice (some a0) 2 cb) z) := fun z hz => hz.2.2.2.2.2.2.2.2.2.out
  have KP : Hid (∀ z z', (z.cell? ⟨w.heap.size, 0, none⟩ = some (.slice (some a) ns.length c) ∧ z.cell? ⟨w.heap.size, 1, none⟩ = some mv ∧ z.cell? ⟨w.heap.size, 2, none⟩ = some pv ∧ z.cell? ⟨w.heap.size + 1, 2, none⟩ = some (.string nm) ∧ z.cell? ⟨w.heap.size + 1, 3, none⟩ = some (.string mo) ∧ z.cell? ⟨w.heap.size + 1, 4, none⟩ = some (.string it) ∧ z.cell? ⟨w.heap.size + 1, 5, none⟩ = some (.slice (some a0) 2 cb) ∧ z.cell? a0 = some (.int .i64 (m0 : Int)) ∧ z.cell? { block := a0.block, off := a0.off + 1 } = some (.int .i64 (m1 : Int)) ∧ Hid (VB w (.slice (some a) ns.length c) mv pv ns ⟨12, num, nm, mo, it, [(m0 : Int), (m1 : Int)]⟩ (.slice (some a0) 2 cb) z)) → Below z.heap.size z z' → (z'.cell? ⟨w.heap.size, 0, none⟩ = some (.slice (some a) ns.length c) ∧ z'.cell? ⟨w.heap.size, 1, none⟩ = some mv ∧ z'.cell? ⟨w.heap.size, 2, none⟩ = some pv ∧ z'.cell? ⟨w.heap.size + 1, 2, none⟩ = some (.string nm) ∧ z'.cell? ⟨w.heap.size + 1, 3, none⟩ = some (.string mo) ∧ z'.cell? ⟨w.heap.size + 1, 4, none⟩ = some (.string it) ∧ z'.cell? ⟨w.heap.size + 1, 5, none⟩ = some (.slice (some a0) 2 cb) ∧ z'.cell? a0 = some (.int .i64 (m0 : Int)) ∧ z'.cell? { block := a0.block, off := a0.off + 1 } = some (.int .i64 (m1 : Int)) ∧ Hid (VB w (.slice (some a) ns.length c) mv pv ns ⟨12, num, nm, mo, it, [(m0 : Int), (m1 : Int)]⟩ (.slice (some a0) 2 cb) z'))) := fun z z' h hb => KS.out z' (h.2.2.2.2.2.2.2.2.2.out.stays hb)
  clear hK0 HB HX2 HD HN2
  go_enter Tryz.func33, Tryz.ntmps33
  go_wp2_with fail
  generalize ((w.alloc (.cells #[.slice (some a) ns.length c, mv, pv] 34)).alloc (.cells #[.int .i64 12, .int .i64 num, .string nm, .string mo, .string it, .slice (some a0) 2 cb] 78)) = W2 at VW ⊢
  have K0 := hide (KS.out _ VW.out.drew)
  clear VW KS
  go_region_held3 (fun z => (z.cell? ⟨w.heap.size, 0, none⟩ = some (.slice (some a) ns.length c) ∧ z.cell? ⟨w.heap.size, 1, none⟩ = some mv ∧ z.cell? ⟨w.heap.size, 2, none⟩ = some pv ∧ z.cell? ⟨w.heap.size + 1, 2, none⟩ = some (.string nm) ∧ z.cell? ⟨w.heap.size + 1, 3, none⟩ = some (.string mo) ∧ z.cell? ⟨w.heap.size + 1, 4, none⟩ = some (.string it) ∧ z.cell? ⟨w.heap.size + 1, 5, none⟩ = some (.slice (some a0) 2 cb) ∧ z.cell? a0 = some (.int .i64 (m0 : Int)) ∧ z.cell? { block := a0.block, off := a0.off + 1 } = some (.int .i64 (m1 : Int)) ∧ Hid (VB w (.slice (some a) ns.length c) mv pv ns ⟨12, num, nm, mo, it, [(m0 : Int), (m1 : Int)]⟩ (.slice (some a0) 2 cb) z))) (first | exact K0.out | exact KP.out _ _ (by assumption) hb4) (((first | (go_at_call 54; refine (unhide (C0 _ (KN.out _ (by assumption)))).mono ?_; rintro e w4 ⟨rfl, hb4⟩) | (go_at_call 14; refine (unhide (C1 _ (KN.out _ (by assumption)))).mono ?_; rintro e w4 ⟨rfl, hb4⟩))))
  all_goals (have D := hide (KV.out _ (by assumption)))
  all_goals (obtain ⟨g0, g1, g2, g3, g4, g5, _, _⟩ := D.out.nod)
  all_goals go_wp2
  all_goals go_ret
  all_goals exact ⟨rfl, D.out.bel⟩
set_option maxRecDepth 100000 in
set_option maxHeartbeats 4000000 in
theorem l07St_if3 {ns : List Nd} {dp : Nat → Nat} (hR : RightT ns dp) (d k : Nat) (h10 : d ≤ 10) (hk : k < ns.length) (hd : dp k ≤ d + 1) (hkd : ns[k].kind = 12) (hkl : ns[k].kids.length = 3) (hl : ns.length ≤ 1048576) (nv mv pv : Value)
    (ihB : ∀ (j : Nat) (w : World), j < ns.length → dp j ≤ d → (ns.getD j default).kind = 20 → NdsAt w nv ns → Calls Tryz.prog 14 #[.agg #[nv, mv, pv], .int .i64 (j : Int)] w fun e w' => e = .returned (.string (joinS (shS ns d j))) ∧ Below w.heap.size w w')
    (w : World) (hN : NdsAt w nv ns) : Calls Tryz.prog 33 #[.agg #[nv, mv, pv], .int .i64 (k : Int)] w fun e w' => e = .returned (.string (joinS (shS ns (d + 1) k))) ∧ Below w.heap.size w w' := by
  have hnode := hR.node k hk
  have hkid := hR.kid k hk
  rw [getD_at hk] at hnode hkid
  have hb1 : Below w.heap.size w (w.alloc (.cells #[nv, mv, pv] 34)) := (Below.refl _ _).alloc (Nat.le_refl _) _
  have HN := hide (hN.stays hb1)
  have HX := hide (Boxed.made w nv mv pv 34)
  obtain ⟨a, c, p, kv, rfl, hpa, hpb, hcell⟩ := HN.out.node k hk
  obtain ⟨d0, d1, d2, d3, d4, d5, hkids⟩ := hcell
  have HD := hide (NodAt.made _ ns[k] kv 78 hkids)
  have HB : Hid (Below w.heap.size w ((w.alloc (.cells #[.slice (some a) ns.length c, mv, pv] 34)).alloc (.cells #[.int .i64 ns[k].kind, .int .i64 ns[k].num, .string ns[k].name, .string ns[k].more, .string ns[k].into, kv] 78))) :=
    hb1.alloc hb1.size _
  have HN2 := hide (HN.out.stays ((Below.refl _ _).alloc (Nat.le_refl _) (.cells #[.int .i64 ns[k].kind, .int .i64 ns[k].num, .string ns[k].name, .string ns[k].more, .string ns[k].into, kv] 78)))
  have HX2 := hide (HX.out.stays ((Below.refl _ _).alloc (Nat.le_refl _) (.cells #[.int .i64 ns[k].kind, .int .i64 ns[k].num, .string ns[k].name, .string ns[k].more, .string ns[k].into, kv] 78)))
  have HH : Hid ((w.alloc (.cells #[.slice (some a) ns.length c, mv, pv] 34)).heap.size = w.heap.size + 1) := by show _ = _; simp
  rw [HH.out] at HD
  obtain ⟨bo, cb, rfl, _⟩ := hkids
  have hi0 : (0 : Int) ≤ (k : Int) := by omega
  have hi1 : (k : Int) < (ns.length : Int) := by omega
  have hklen : (kinds ns k).length = ns[k].kids.length := kinds_len hk
  have hKO := kids_of hnode hklen
  have hkin : kinds ns k = ns[k].kids.map (kidKind ns k) := by rw [kinds, getD_at hk]
  have hsh : shS ns (d + 1) k = signsN ns[k] (fun i => shS ns d (kidN ns[k] i)) (ns[k].kids.map fun y => shS ns d y.toNat) := by rw [shS, getD_at hk]
  have hFT := facts_of hnode
  obtain ⟨x, ex⟩ : ∃ x, ns[k] = x := ⟨_, rfl⟩
  rw [ex] at HD HB HN2 HX2 d0 d1 d2 d3 d4 d5 hkd hkl hnode hkid hKO hsh hkin hFT
  obtain ⟨kd, num, nm, mo, it, ks⟩ := x
  dsimp only at HD HB HN2 HX2 d0 d1 d2 d3 d4 d5 hkd hkl hkid hKO hkin hFT
  subst hkd
  have hkid2 : ∀ y ∈ ks, ∃ m : Nat, y = (m : Int) ∧ m < ns.length ∧ dp m ≤ d := fun y hy => by
    obtain ⟨a1, a2, a3⟩ := hkid y hy
    exact ⟨y.toNat, by omega, by omega, by omega⟩
  have hlen : ks.length = 3 := hkl
  obtain ⟨y0, y1, y2, rfl⟩ : ∃ y0 y1 y2, ks = [y0, y1, y2] := three_of hlen
  obtain ⟨m0, rfl, hm0, hd0⟩ := hkid2 y0 (List.mem_cons_self)
  obtain ⟨m1, rfl, hm1, hd1⟩ := hkid2 y1 (List.mem_cons_of_mem _ (List.mem_cons_self))
  obtain ⟨m2, rfl, hm2, hd2⟩ := hkid2 y2 (List.mem_cons_of_mem _ (List.mem_cons_of_mem _ (List.mem_cons_self)))
  have hq := kid_kinds (x := ⟨12, num, nm, mo, it, [(m0 : Int), (m1 : Int), (m2 : Int)]⟩) hkin hnode (fun y hy => ⟨(hkid y hy).1, (hkid y hy).2.1⟩)
  have q0 : valueQ (ns.getD m0 default).kind = true := hq.1 (by simp) 0 (m0 : Int) rfl rfl
  have q1 : (ns.getD m1 default).kind = 20 := hq.2 (by simp) 1 (m1 : Int) rfl (by decide)
  have q2 : (ns.getD m2 default).kind = 20 := hq.2 (by simp) 2 (m2 : Int) rfl (by decide)
  have s0 := shS_joined hR h10 hm0 hd0
  have n0 : shS ns d m0 ≠ [] := by
    have := (hR.deep m0 hm0).1
    obtain ⟨d', rfl⟩ : ∃ d', d = d' + 1 := ⟨d - 1, by omega⟩
    exact shS_ne ns d' m0
  have C0 := fun w h => hide (l07Value_any hR hl (.slice (some a) ns.length c) mv pv d h10 m0 w hm0 hd0 q0 h)
  have s1 := shS_joined hR h10 hm1 hd1
  have n1 : shS ns d m1 ≠ [] := by
    have := (hR.deep m1 hm1).1
    obtain ⟨d', rfl⟩ : ∃ d', d = d' + 1 := ⟨d - 1, by omega⟩
    exact shS_ne ns d' m1
  have C1 := fun w h => hide (ihB m1 w hm1 hd1 q1 h)
  have s2 := shS_joined hR h10 hm2 hd2
  have n2 : shS ns d m2 ≠ [] := by
    have := (hR.deep m2 hm2).1
    obtain ⟨d', rfl⟩ : ∃ d', d = d' + 1 := ⟨d - 1, by omega⟩
    exact shS_ne ns d' m2
  have C2 := fun w h => hide (ihB m2 w hm2 hd2 q2 h)
  have HT : Hid (joinS (shS ns (d + 1) k) = ⟨#[105, 102, 32]⟩ ++ joinS (shS ns d m0) ++ ⟨#[32, 116, 104, 101, 110, 32]⟩ ++ joinS (shS ns d m1) ++ ⟨#[32, 101, 108, 115, 101, 32]⟩ ++ joinS (shS ns d m2)) := by
    show _ = _
    rw [hsh]
    show joinS (tx "if" :: (shS ns d m0 ++ tx "then" :: (shS ns d m1 ++ tx "else" :: shS ns d m2))) = _
    rw [joinS_cons _ (by simp), joinS_app n0 (by simp), joinS_cons _ (by simp), joinS_app n1 (by simp), joinS_cons _ n2]
    have c0 : tx "if" ++ ⟨#[32]⟩ = (⟨#[105, 102, 32]⟩ : ByteArray) := by decide +kernel
    have c1 : ⟨#[32]⟩ ++ tx "then" ++ ⟨#[32]⟩ = (⟨#[32, 116, 104, 101, 110, 32]⟩ : ByteArray) := by decide +kernel
    have c2 : ⟨#[32]⟩ ++ tx "else" ++ ⟨#[32]⟩ = (⟨#[32, 101, 108, 115, 101, 32]⟩ : ByteArray) := by decide +kernel
    simp only [← c0, ← c1, ← c2, ByteArray.append_assoc]
  rw [HT.out]
  obtain ⟨t0, et0⟩ : ∃ t, t = joinS (shS ns d m0) := ⟨_, rfl⟩
  rw [← et0] at C0 s0 ⊢
  obtain ⟨t1, et1⟩ : ∃ t, t = joinS (shS ns d m1) := ⟨_, rfl⟩
  rw [← et1] at C1 s1 ⊢
  obtain ⟨t2, et2⟩ : ∃ t, t = joinS (shS ns d m2) := ⟨_, rfl⟩
  rw [← et2] at C2 s2 ⊢
  have hc0 : ¬ 9223372036854775807 < 3 + t0.size := by omega
  have hc1 : ¬ 9223372036854775807 < 3 + t0.size + 6 := by omega
  have hc2 : ¬ 9223372036854775807 < 3 + t0.size + 6 + t1.size := by omega
  have hc3 : ¬ 9223372036854775807 < 3 + t0.size + 6 + t1.size + 6 := by omega
  have hc4 : ¬ 9223372036854775807 < 3 + t0.size + 6 + t1.size + 6 + t2.size := by omega
  clear hsh hKO hkid hnode hR hkid2 HT hkin hFT ihB et0 n0 hm0 hd0 q0 et1 n1 hm1 hd1 q1 et2 n2 hm2 hd2 q2 hlen hq hkl
  have VW : Hid (VB w (.slice (some a) ns.length c) mv pv ns ⟨12, num, nm, mo, it, [(m0 : Int), (m1 : Int), (m2 : Int)]⟩ (.slice bo 3 cb) ((w.alloc (.cells #[.slice (some a) ns.length c, mv, pv] 34)).alloc (.cells #[.int .i64 12, .int .i64 num, .string nm, .string mo, .string it, .slice bo 3 cb] 78))) := ⟨HB.out, HX2.out, HD.out, HN2.out⟩
  have hkd0 : ∃ a0, bo = some a0 ∧ ∀ z, VB w (.slice (some a) ns.length c) mv pv ns ⟨12, num, nm, mo, it, [(m0 : Int), (m1 : Int), (m2 : Int)]⟩ (.slice bo 3 cb) z → z.cell? a0 = some (.int .i64 (m0 : Int)) ∧ z.cell? { block := a0.block, off := a0.off + 1 } = some (.int .i64 (m1 : Int)) ∧ z.cell? { block := a0.block, off := a0.off + 2 } = some (.int .i64 (m2 : Int)) := by
    obtain ⟨ao, c0, e0, hk0⟩ := HD.out.kids
    injection e0 with e1 e2 e3
    subst e1
    obtain ⟨a0, ea0, _, _⟩ := hk0 0 (by simp)
    refine ⟨a0, ea0, fun z hz => ?_⟩
    obtain ⟨ao', c0', e0', hk0'⟩ := hz.nod.kids
    injection e0' with e1' e2' e3'
    subst e1'
    obtain ⟨a1, ea1, _, hz0⟩ := hk0' 0 (by simp)
    obtain ⟨a2, ea2, _, hz1⟩ := hk0' 1 (by simp)
    obtain ⟨a3, ea3, _, hz2⟩ := hk0' 2 (by simp)
    rw [ea0] at ea1 ea2 ea3
    cases ea1
    cases ea2
    cases ea3
    exact ⟨by simpa [go_sem] using hz0, by simpa [go_sem] using hz1, by simpa [go_sem] using hz2⟩
  obtain ⟨a0, rfl, hK0⟩ := hkd0
  have HK := hide hK0
  have KS : Hid (∀ z, VB w (.slice (some a) ns.length c) mv pv ns ⟨12, num, nm, mo, it, [(m0 : Int), (m1 : Int), (m2 : Int)]⟩ (.slice (some a0) 3 cb) z → (z.cell? ⟨w.heap.size, 0, none⟩ = some (.slice (some a) ns.length c) ∧ z.cell? ⟨w.heap.size, 1, none⟩ = some mv ∧ z.cell? ⟨w.heap.size, 2, none⟩ = some pv ∧ z.cell? ⟨w.heap.size + 1, 2, none⟩ = some (.string nm) ∧ z.cell? ⟨w.heap.size + 1, 3, none⟩ = some (.string mo) ∧ z.cell? ⟨w.heap.size + 1, 4, none⟩ = some (.string it) ∧ z.cell? ⟨w.heap.size + 1, 5, none⟩ = some (.slice (some a0) 3 cb) ∧ z.cell? a0 = some (.int .i64 (m0 : Int)) ∧ z.cell? { block := a0.block, off := a0.off + 1 } = some (.int .i64 (m1 : Int)) ∧ z.cell? { block := a0.block, off := a0.off + 2 } = some (.int .i64 (m2 : Int)) ∧ Hid (VB w (.slice (some a) ns.length c) mv pv ns ⟨12, num, nm, mo, it, [(m0 : Int), (m1 : Int), (m2 : Int)]⟩ (.slice (some a0) 3 cb) z))) := fun z hz => ⟨hz.box.c0, hz.box.c1, hz.box.c2, hz.nod.c2, hz.nod.c3, hz.nod.c4, hz.nod.c5, (HK.out z hz).1, (HK.out z hz).2.1, (HK.out z hz).2.2, hz⟩
  have KN : Hid (∀ z, (z.cell? ⟨w.heap.size, 0, none⟩ = some (.slice (some a) ns.length c) ∧ z.cell? ⟨w.heap.size, 1, none⟩ = some mv ∧ z.cell? ⟨w.heap.size, 2, none⟩ = some pv ∧ z.cell? ⟨w.heap.size + 1, 2, none⟩ = some (.string nm) ∧ z.cell? ⟨w.heap.size + 1, 3, none⟩ = some (.string mo) ∧ z.cell? ⟨w.heap.size + 1, 4, none⟩ = some (.string it) ∧ z.cell? ⟨w.heap.size + 1, 5, none⟩ = some (.slice (some a0) 3 cb) ∧ z.cell? a0 = some (.int .i64 (m0 : Int)) ∧ z.cell? { block := a0.block, off := a0.off + 1 } = some (.int .i64 (m1 : Int)) ∧ z.cell? { block := a0.block, off := a0.off + 2 } = some (.int .i64 (m2 : Int)) ∧ Hid (VB w (.slice (some a) ns.length c) mv pv ns ⟨12, num, nm, mo, it, [(m0 : Int), (m1 : Int), (m2 : Int)]⟩ (.slice (some a0) 3 cb) z)) → NdsAt z (.slice (some a) ns.length c) ns) := fun z hz => hz.2.2.2.2.2.2.2.2.2.2.out.nds
  have KV : Hid (∀ z, (z.cell? ⟨w.heap.size, 0, none⟩ = some (.slice (some a) ns.length c) ∧ z.cell? ⟨w.heap.size, 1, none⟩ = some mv ∧ z.cell? ⟨w.heap.size, 2, none⟩ = some pv ∧ z.cell? ⟨w.heap.size + 1, 2, none⟩ = some (.string nm) ∧ z.cell? ⟨w.heap.size + 1, 3, none⟩ = some (.string mo) ∧ z.cell? ⟨w.heap.size + 1, 4, none⟩ = some (.string it) ∧ z.cell? ⟨w.heap.size + 1, 5, none⟩ = some (.slice (some a0) 3 cb) ∧ z.cell? a0 = some (.int .i64 (m0 : Int)) ∧ z.cell? { block := a0.block, off := a0.off + 1 } = some (.int .i64 (m1 : Int)) ∧ z.cell? { block := a0.block, off := a0.off + 2 } = some (.int .i64 (m2 : Int)) ∧ Hid (VB w (.slice (some a) ns.length c) mv pv ns ⟨12, num, nm, mo, it, [(m0 : Int), (m1 : Int), (m2 : Int)]⟩ (.slice (some a0) 3 cb) z)) → VB w (.slice (some a) ns.length c) mv pv ns ⟨12, num, nm, mo, it, [(m0 : Int), (m1 : Int), (m2 : Int)]⟩ (.slice (some a0) 3 cb) z) := fun z hz => hz.2.2.2.2.2.2.2.2.2.2.out
  have KP : Hid (∀ z z', (z.cell? ⟨w.heap.size, 0, none⟩ = some (.slice (some a) ns.length c) ∧ z.cell? ⟨w.heap.size, 1, none⟩ = some mv ∧ z.cell? ⟨w.heap.size, 2, none⟩ = some pv ∧ z.cell? ⟨w.heap.size + 1, 2, none⟩ = some (.string nm) ∧ z.cell? ⟨w.heap.size + 1, 3, none⟩ = some (.string mo) ∧ z.cell? ⟨w.heap.size + 1, 4, none⟩ = some (.string it) ∧ z.cell? ⟨w.heap.size + 1, 5, none⟩ = some (.slice (some a0) 3 cb) ∧ z.cell? a0 = some (.int .i64 (m0 : Int)) ∧ z.cell? { block := a0.block, off := a0.off + 1 } = some (.int .i64 (m1 : Int)) ∧ z.cell? { block := a0.block, off := a0.off + 2 } = some (.int .i64 (m2 : Int)) ∧ Hid (VB w (.slice (some a) ns.length c) mv pv ns ⟨12, num, nm, mo, it, [(m0 : Int), (m1 : Int), (m2 : Int)]⟩ (.slice (some a0) 3 cb) z)) → Below z.heap.size z z' → (z'.cell? ⟨w.heap.size, 0, none⟩ = some (.slice (some a) ns.length c) ∧ z'.cell? ⟨w.heap.size, 1, none⟩ = some mv ∧ z'.cell? ⟨w.heap.size, 2, none⟩ = some pv ∧ z'.cell? ⟨w.heap.size + 1, 2, none⟩ = some (.string nm) ∧ z'.cell? ⟨w.heap.size + 1, 3, none⟩ = some (.string mo) ∧ z'.cell? ⟨w.heap.size + 1, 4, none⟩ = some (.string it) ∧ z'.cell? ⟨w.heap.size + 1, 5, none⟩ = some (.slice (some a0) 3 cb) ∧ z'.cell? a0 = some (.int .i64 (m0 : Int)) ∧ z'.cell? { block := a0.block, off := a0.off + 1 } = some (.int .i64 (m1 : Int)) ∧ z'.cell? { block := a0.block, off := a0.off + 2 } = some (.int .i64 (m2 : Int)) ∧ Hid (VB w (.slice (some a) ns.length c) mv pv ns ⟨12, num, nm, mo, it, [(m0 : Int), (m1 : Int), (m2 : Int)]⟩ (.slice (some a0) 3 cb) z'))) := fun z z' h hb => KS.out z' (h.2.2.2.2.2.2.2.2.2.2.out.stays hb)
  clear hK0 HB HX2 HD HN2
  go_enter Tryz.func33, Tryz.ntmps33
  go_wp2_with fail
  generalize ((w.alloc (.cells #[.slice (some a) ns.length c, mv, pv] 34)).alloc (.cells #[.int .i64 12, .int .i64 num, .string nm, .string mo, .string it, .slice (some a0) 3 cb] 78)) = W2 at VW ⊢
  have K0 := hide (KS.out _ VW.out.drew)
  clear VW
  go_region_held3 (fun z => (z.cell? ⟨w.heap.size, 0, none⟩ = some (.slice (some a) ns.length c) ∧ z.cell? ⟨w.heap.size, 1, none⟩ = some mv ∧ z.cell? ⟨w.heap.size, 2, none⟩ = some pv ∧ z.cell? ⟨w.heap.size + 1, 2, none⟩ = some (.string nm) ∧ z.cell? ⟨w.heap.size + 1, 3, none⟩ = some (.string mo) ∧ z.cell? ⟨w.heap.size + 1, 4, none⟩ = some (.string it) ∧ z.cell? ⟨w.heap.size + 1, 5, none⟩ = some (.slice (some a0) 3 cb) ∧ z.cell? a0 = some (.int .i64 (m0 : Int)) ∧ z.cell? { block := a0.block, off := a0.off + 1 } = some (.int .i64 (m1 : Int)) ∧ z.cell? { block := a0.block, off := a0.off + 2 } = some (.int .i64 (m2 : Int)) ∧ Hid (VB w (.slice (some a) ns.length c) mv pv ns ⟨12, num, nm, mo, it, [(m0 : Int), (m1 : Int), (m2 : Int)]⟩ (.slice (some a0) 3 cb) z))) (first | exact K0.out | exact KP.out _ _ (by assumption) hb4) (((first | (go_at_call 54; refine (unhide (C0 _ (KN.out _ (by assumption)))).mono ?_; rintro e w4 ⟨rfl, hb4⟩) | (go_at_call 14; refine (unhide (C1 _ (KN.out _ (by assumption)))).mono ?_; rintro e w4 ⟨rfl, hb4⟩))))
  all_goals (have D := hide (KV.out _ (by assumption)))
  all_goals (obtain ⟨g0, g1, g2, g3, g4, g5, _, _⟩ := D.out.nod)
  all_goals go_wp2_with fail
  all_goals (have K1 := hide (KS.out _ D.out.drew))
  all_goals
    go_region_held3 (fun z => (z.cell? ⟨w.heap.size, 0, none⟩ = some (.slice (some a) ns.length c) ∧ z.cell? ⟨w.heap.size, 1, none⟩ = some mv ∧ z.cell? ⟨w.heap.size, 2, none⟩ = some pv ∧ z.cell? ⟨w.heap.size + 1, 2, none⟩ = some (.string nm) ∧ z.cell? ⟨w.heap.size + 1, 3, none⟩ = some (.string mo) ∧ z.cell? ⟨w.heap.size + 1, 4, none⟩ = some (.string it) ∧ z.cell? ⟨w.heap.size + 1, 5, none⟩ = some (.slice (some a0) 3 cb) ∧ z.cell? a0 = some (.int .i64 (m0 : Int)) ∧ z.cell? { block := a0.block, off := a0.off + 1 } = some (.int .i64 (m1 : Int)) ∧ z.cell? { block := a0.block, off := a0.off + 2 } = some (.int .i64 (m2 : Int)) ∧ Hid (VB w (.slice (some a) ns.length c) mv pv ns ⟨12, num, nm, mo, it, [(m0 : Int), (m1 : Int), (m2 : Int)]⟩ (.slice (some a0) 3 cb) z))) (first | exact K1.out | exact KP.out _ _ (by assumption) hb5) (((go_at_call 14; refine (unhide (C2 _ (KN.out _ (by assumption)))).mono ?_; rintro e w5 ⟨rfl, hb5⟩)))
    all_goals (have D2 := hide (KV.out _ (by assumption)))
    all_goals go_wp2
    all_goals go_ret
    all_goals exact ⟨rfl, D2.out.bel⟩
set_option maxRecDepth 100000 in
set_option maxHeartbeats 4000000 in
theorem l07St_call0 {ns : List Nd} {dp : Nat → Nat} (hR : RightT ns dp) (d k : Nat) (h10 : d ≤ 10) (hk : k < ns.length) (hd : dp k ≤ d + 1) (hkd : ns[k].kind = 14) (hkl : ns[k].into.toList.isEmpty = true) (hl : ns.length ≤ 1048576) (nv mv pv : Value)
    (ihB : ∀ (j : Nat) (w : World), j < ns.length → dp j ≤ d → (ns.getD j default).kind = 20 → NdsAt w nv ns → Calls Tryz.prog 14 #[.agg #[nv, mv, pv], .int .i64 (j : Int)] w fun e w' => e = .returned (.string (joinS (shS ns d j))) ∧ Below w.heap.size w w')
    (w : World) (hN : NdsAt w nv ns) : Calls Tryz.prog 33 #[.agg #[nv, mv, pv], .int .i64 (k : Int)] w fun e w' => e = .returned (.string (joinS (shS ns (d + 1) k))) ∧ Below w.heap.size w w' := by
  have hnode := hR.node k hk
  have hkid := hR.kid k hk
  rw [getD_at hk] at hnode hkid
  have hb1 : Below w.heap.size w (w.alloc (.cells #[nv, mv, pv] 34)) := (Below.refl _ _).alloc (Nat.le_refl _) _
  have HN := hide (hN.stays hb1)
  have HX := hide (Boxed.made w nv mv pv 34)
  obtain ⟨a, c, p, kv, rfl, hpa, hpb, hcell⟩ := HN.out.node k hk
  obtain ⟨d0, d1, d2, d3, d4, d5, hkids⟩ := hcell
  have HD := hide (NodAt.made _ ns[k] kv 78 hkids)
  have HB : Hid (Below w.heap.size w ((w.alloc (.cells #[.slice (some a) ns.length c, mv, pv] 34)).alloc (.cells #[.int .i64 ns[k].kind, .int .i64 ns[k].num, .string ns[k].name, .string ns[k].more, .string ns[k].into, kv] 78))) :=
    hb1.alloc hb1.size _
  have HN2 := hide (HN.out.stays ((Below.refl _ _).alloc (Nat.le_refl _) (.cells #[.int .i64 ns[k].kind, .int .i64 ns[k].num, .string ns[k].name, .string ns[k].more, .string ns[k].into, kv] 78)))
  have HX2 := hide (HX.out.stays ((Below.refl _ _).alloc (Nat.le_refl _) (.cells #[.int .i64 ns[k].kind, .int .i64 ns[k].num, .string ns[k].name, .string ns[k].more, .string ns[k].into, kv] 78)))
  have HH : Hid ((w.alloc (.cells #[.slice (some a) ns.length c, mv, pv] 34)).heap.size = w.heap.size + 1) := by show _ = _; simp
  rw [HH.out] at HD
  obtain ⟨bo, cb, rfl, _⟩ := hkids
  have hi0 : (0 : Int) ≤ (k : Int) := by omega
  have hi1 : (k : Int) < (ns.length : Int) := by omega
  have hklen : (kinds ns k).length = ns[k].kids.length := kinds_len hk
  have hKO := kids_of hnode hklen
  have hkin : kinds ns k = ns[k].kids.map (kidKind ns k) := by rw [kinds, getD_at hk]
  have hsh : shS ns (d + 1) k = signsN ns[k] (fun i => shS ns d (kidN ns[k] i)) (ns[k].kids.map fun y => shS ns d y.toNat) := by rw [shS, getD_at hk]
  have hFT := facts_of hnode
  obtain ⟨x, ex⟩ : ∃ x, ns[k] = x := ⟨_, rfl⟩
  rw [ex] at HD HB HN2 HX2 d0 d1 d2 d3 d4 d5 hkd hkl hnode hkid hKO hsh hkin hFT
  obtain ⟨kd, num, nm, mo, it, ks⟩ := x
  dsimp only at HD HB HN2 HX2 d0 d1 d2 d3 d4 d5 hkd hkl hkid hKO hkin hFT
  subst hkd
  have HNE : Hid (it = ⟨#[]⟩) := empty_of hkl
  have hkid2 : ∀ y ∈ ks, ∃ m : Nat, y = (m : Int) ∧ m < ns.length ∧ dp m ≤ d := fun y hy => by
    obtain ⟨a1, a2, a3⟩ := hkid y hy
    exact ⟨y.toNat, by omega, by omega, by omega⟩
  have hlen : ks.length = 1 := (by have := hKO.2.1 (by simp); exact this)
  obtain ⟨y0, rfl⟩ : ∃ y0, ks = [y0] := one_of hlen
  obtain ⟨m0, rfl, hm0, hd0⟩ := hkid2 y0 (List.mem_cons_self)
  have hq := kid_kinds (x := ⟨14, num, nm, mo, it, [(m0 : Int)]⟩) hkin hnode (fun y hy => ⟨(hkid y hy).1, (hkid y hy).2.1⟩)
  have q0 : valueQ (ns.getD m0 default).kind = true := hq.1 (by simp) 0 (m0 : Int) rfl rfl
  have s0 := shS_joined hR h10 hm0 hd0
  have n0 : shS ns d m0 ≠ [] := by
    have := (hR.deep m0 hm0).1
    obtain ⟨d', rfl⟩ : ∃ d', d = d' + 1 := ⟨d - 1, by omega⟩
    exact shS_ne ns d' m0
  have C0 := fun w h => hide (l07Value_any hR hl (.slice (some a) ns.length c) mv pv d h10 m0 w hm0 hd0 q0 h)
  have HT : Hid (joinS (shS ns (d + 1) k) = ⟨#[99, 97, 108, 108, 32]⟩ ++ nm ++ ⟨#[32, 46, 32]⟩ ++ mo ++ ⟨#[32, 40, 32]⟩ ++ joinS (shS ns d m0) ++ ⟨#[32, 41]⟩) := by
    show _ = _
    rw [hsh]
    show joinS (tx "call" :: nm :: tx "." :: mo :: tx "(" :: (shS ns d m0 ++ tx ")" :: if it.toList.isEmpty then [] else [tx "to", it])) = _
    rw [hkl, if_pos rfl, joinS_cons _ (by simp), joinS_cons _ (by simp), joinS_cons _ (by simp), joinS_cons _ (by simp), joinS_cons _ (by simp), joinS_app n0 (by simp)]
    have c0 : tx "call" ++ ⟨#[32]⟩ = (⟨#[99, 97, 108, 108, 32]⟩ : ByteArray) := by decide +kernel
    have c1 : ⟨#[32]⟩ ++ tx "." ++ ⟨#[32]⟩ = (⟨#[32, 46, 32]⟩ : ByteArray) := by decide +kernel
    have c2 : ⟨#[32]⟩ ++ tx "(" ++ ⟨#[32]⟩ = (⟨#[32, 40, 32]⟩ : ByteArray) := by decide +kernel
    have c3 : ⟨#[32]⟩ ++ tx ")" = (⟨#[32, 41]⟩ : ByteArray) := by decide +kernel
    simp only [← c0, ← c1, ← c2, ← c3, ByteArray.append_assoc, joinS]
  rw [HT.out]
  obtain ⟨t0, et0⟩ : ∃ t, t = joinS (shS ns d m0) := ⟨_, rfl⟩
  rw [← et0] at C0 s0 ⊢
  have hmo := hFT.2 rfl
  have hnm : nm.size ≤ 8 := hFT.1 (by simp [namedQ])
  have hc0 : ¬ 9223372036854775807 < 5 + nm.size := by omega
  have hc1 : ¬ 9223372036854775807 < 5 + nm.size + 3 := by omega
  have hc2 : ¬ 9223372036854775807 < 5 + nm.size + 3 + mo.size := by omega
  have hc3 : ¬ 9223372036854775807 < 5 + nm.size + 3 + mo.size + 3 := by omega
  have hc4 : ¬ 9223372036854775807 < 5 + nm.size + 3 + mo.size + 3 + t0.size := by omega
  have hc5 : ¬ 9223372036854775807 < 5 + nm.size + 3 + mo.size + 3 + t0.size + 2 := by omega
  clear hsh hKO hkid hnode hR hkid2 HT hkin hFT ihB et0 n0 hm0 hd0 q0 hlen hq hkl
  have VW : Hid (VB w (.slice (some a) ns.length c) mv pv ns ⟨14, num, nm, mo, it, [(m0 : Int)]⟩ (.slice bo 1 cb) ((w.alloc (.cells #[.slice (some a) ns.length c, mv, pv] 34)).alloc (.cells #[.int .i64 14, .int .i64 num, .string nm, .string mo, .string it, .slice bo 1 cb] 78))) := ⟨HB.out, HX2.out, HD.out, HN2.out⟩
  have hkd0 : ∃ a0, bo = some a0 ∧ ∀ z, VB w (.slice (some a) ns.length c) mv pv ns ⟨14, num, nm, mo, it, [(m0 : Int)]⟩ (.slice bo 1 cb) z → z.cell? a0 = some (.int .i64 (m0 : Int)) := by
    obtain ⟨ao, c0, e0, hk0⟩ := HD.out.kids
    injection e0 with e1 e2 e3
    subst e1
    obtain ⟨a0, ea0, _, _⟩ := hk0 0 (by simp)
    refine ⟨a0, ea0, fun z hz => ?_⟩
    obtain ⟨ao', c0', e0', hk0'⟩ := hz.nod.kids
    injection e0' with e1' e2' e3'
    subst e1'
    obtain ⟨a1, ea1, _, hz0⟩ := hk0' 0 (by simp)
    rw [ea0] at ea1
    cases ea1
    exact by simpa [go_sem] using hz0
  obtain ⟨a0, rfl, hK0⟩ := hkd0
  have HK := hide hK0
  have KS : Hid (∀ z, VB w (.slice (some a) ns.length c) mv pv ns ⟨14, num, nm, mo, it, [(m0 : Int)]⟩ (.slice (some a0) 1 cb) z → (z.cell? ⟨w.heap.size, 0, none⟩ = some (.slice (some a) ns.length c) ∧ z.cell? ⟨w.heap.size, 1, none⟩ = some mv ∧ z.cell? ⟨w.heap.size, 2, none⟩ = some pv ∧ z.cell? ⟨w.heap.size + 1, 2, none⟩ = some (.string nm) ∧ z.cell? ⟨w.heap.size + 1, 3, none⟩ = some (.string mo) ∧ z.cell? ⟨w.heap.size + 1, 4, none⟩ = some (.string it) ∧ z.cell? ⟨w.heap.size + 1, 5, none⟩ = some (.slice (some a0) 1 cb) ∧ z.cell? a0 = some (.int .i64 (m0 : Int)) ∧ Hid (VB w (.slice (some a) ns.length c) mv pv ns ⟨14, num, nm, mo, it, [(m0 : Int)]⟩ (.slice (some a0) 1 cb) z))) := fun z hz => ⟨hz.box.c0, hz.box.c1, hz.box.c2, hz.nod.c2, hz.nod.c3, hz.nod.c4, hz.nod.c5, (HK.out z hz), hz⟩
  have KN : Hid (∀ z, (z.cell? ⟨w.heap.size, 0, none⟩ = some (.slice (some a) ns.length c) ∧ z.cell? ⟨w.heap.size, 1, none⟩ = some mv ∧ z.cell? ⟨w.heap.size, 2, none⟩ = some pv ∧ z.cell? ⟨w.heap.size + 1, 2, none⟩ = some (.string nm) ∧ z.cell? ⟨w.heap.size + 1, 3, none⟩ = some (.string mo) ∧ z.cell? ⟨w.heap.size + 1, 4, none⟩ = some (.string it) ∧ z.cell? ⟨w.heap.size + 1, 5, none⟩ = some (.slice (some a0) 1 cb) ∧ z.cell? a0 = some (.int .i64 (m0 : Int)) ∧ Hid (VB w (.slice (some a) ns.length c) mv pv ns ⟨14, num, nm, mo, it, [(m0 : Int)]⟩ (.slice (some a0) 1 cb) z)) → NdsAt z (.slice (some a) ns.length c) ns) := fun z hz => hz.2.2.2.2.2.2.2.2.out.nds
  have KV : Hid (∀ z, (z.cell? ⟨w.heap.size, 0, none⟩ = some (.slice (some a) ns.length c) ∧ z.cell? ⟨w.heap.size, 1, none⟩ = some mv ∧ z.cell? ⟨w.heap.size, 2, none⟩ = some pv ∧ z.cell? ⟨w.heap.size + 1, 2, none⟩ = some (.string nm) ∧ z.cell? ⟨w.heap.size + 1, 3, none⟩ = some (.string mo) ∧ z.cell? ⟨w.heap.size + 1, 4, none⟩ = some (.string it) ∧ z.cell? ⟨w.heap.size + 1, 5, none⟩ = some (.slice (some a0) 1 cb) ∧ z.cell? a0 = some (.int .i64 (m0 : Int)) ∧ Hid (VB w (.slice (some a) ns.length c) mv pv ns ⟨14, num, nm, mo, it, [(m0 : Int)]⟩ (.slice (some a0) 1 cb) z)) → VB w (.slice (some a) ns.length c) mv pv ns ⟨14, num, nm, mo, it, [(m0 : Int)]⟩ (.slice (some a0) 1 cb) z) := fun z hz => hz.2.2.2.2.2.2.2.2.out
  have KP : Hid (∀ z z', (z.cell? ⟨w.heap.size, 0, none⟩ = some (.slice (some a) ns.length c) ∧ z.cell? ⟨w.heap.size, 1, none⟩ = some mv ∧ z.cell? ⟨w.heap.size, 2, none⟩ = some pv ∧ z.cell? ⟨w.heap.size + 1, 2, none⟩ = some (.string nm) ∧ z.cell? ⟨w.heap.size + 1, 3, none⟩ = some (.string mo) ∧ z.cell? ⟨w.heap.size + 1, 4, none⟩ = some (.string it) ∧ z.cell? ⟨w.heap.size + 1, 5, none⟩ = some (.slice (some a0) 1 cb) ∧ z.cell? a0 = some (.int .i64 (m0 : Int)) ∧ Hid (VB w (.slice (some a) ns.length c) mv pv ns ⟨14, num, nm, mo, it, [(m0 : Int)]⟩ (.slice (some a0) 1 cb) z)) → Below z.heap.size z z' → (z'.cell? ⟨w.heap.size, 0, none⟩ = some (.slice (some a) ns.length c) ∧ z'.cell? ⟨w.heap.size, 1, none⟩ = some mv ∧ z'.cell? ⟨w.heap.size, 2, none⟩ = some pv ∧ z'.cell? ⟨w.heap.size + 1, 2, none⟩ = some (.string nm) ∧ z'.cell? ⟨w.heap.size + 1, 3, none⟩ = some (.string mo) ∧ z'.cell? ⟨w.heap.size + 1, 4, none⟩ = some (.string it) ∧ z'.cell? ⟨w.heap.size + 1, 5, none⟩ = some (.slice (some a0) 1 cb) ∧ z'.cell? a0 = some (.int .i64 (m0 : Int)) ∧ Hid (VB w (.slice (some a) ns.length c) mv pv ns ⟨14, num, nm, mo, it, [(m0 : Int)]⟩ (.slice (some a0) 1 cb) z'))) := fun z z' h hb => KS.out z' (h.2.2.2.2.2.2.2.2.out.stays hb)
  clear hK0 HB HX2 HD HN2
  go_enter Tryz.func33, Tryz.ntmps33
  go_wp2_with fail
  generalize ((w.alloc (.cells #[.slice (some a) ns.length c, mv, pv] 34)).alloc (.cells #[.int .i64 14, .int .i64 num, .string nm, .string mo, .string it, .slice (some a0) 1 cb] 78)) = W2 at VW ⊢
  have K0 := hide (KS.out _ VW.out.drew)
  clear VW KS
  go_region_held3 (fun z => (z.cell? ⟨w.heap.size, 0, none⟩ = some (.slice (some a) ns.length c) ∧ z.cell? ⟨w.heap.size, 1, none⟩ = some mv ∧ z.cell? ⟨w.heap.size, 2, none⟩ = some pv ∧ z.cell? ⟨w.heap.size + 1, 2, none⟩ = some (.string nm) ∧ z.cell? ⟨w.heap.size + 1, 3, none⟩ = some (.string mo) ∧ z.cell? ⟨w.heap.size + 1, 4, none⟩ = some (.string it) ∧ z.cell? ⟨w.heap.size + 1, 5, none⟩ = some (.slice (some a0) 1 cb) ∧ z.cell? a0 = some (.int .i64 (m0 : Int)) ∧ Hid (VB w (.slice (some a) ns.length c) mv pv ns ⟨14, num, nm, mo, it, [(m0 : Int)]⟩ (.slice (some a0) 1 cb) z))) (first | exact K0.out | exact KP.out _ _ (by assumption) hb4) (((go_at_call 54; refine (unhide (C0 _ (KN.out _ (by assumption)))).mono ?_; rintro e w4 ⟨rfl, hb4⟩)))
  all_goals (have D := hide (KV.out _ (by assumption)))
  all_goals (obtain ⟨g0, g1, g2, g3, g4, g5, _, _⟩ := D.out.nod)
  all_goals (have hne := HNE.out)
  all_goals go_wp2
  all_goals go_ret
  all_goals (first | exact ⟨rfl, D.out.bel⟩ | (exfalso; simp_all))
set_option maxRecDepth 100000 in
set_option maxHeartbeats 4000000 in
theorem l07St_call1 {ns : List Nd} {dp : Nat → Nat} (hR : RightT ns dp) (d k : Nat) (h10 : d ≤ 10) (hk : k < ns.length) (hd : dp k ≤ d + 1) (hkd : ns[k].kind = 14) (hkl : ns[k].into.toList.isEmpty = false) (hl : ns.length ≤ 1048576) (nv mv pv : Value)
    (ihB : ∀ (j : Nat) (w : World), j < ns.length → dp j ≤ d → (ns.getD j default).kind = 20 → NdsAt w nv ns → Calls Tryz.prog 14 #[.agg #[nv, mv, pv], .int .i64 (j : Int)] w fun e w' => e = .returned (.string (joinS (shS ns d j))) ∧ Below w.heap.size w w')
    (w : World) (hN : NdsAt w nv ns) : Calls Tryz.prog 33 #[.agg #[nv, mv, pv], .int .i64 (k : Int)] w fun e w' => e = .returned (.string (joinS (shS ns (d + 1) k))) ∧ Below w.heap.size w w' := by
  have hnode := hR.node k hk
  have hkid := hR.kid k hk
  rw [getD_at hk] at hnode hkid
  have hb1 : Below w.heap.size w (w.alloc (.cells #[nv, mv, pv] 34)) := (Below.refl _ _).alloc (Nat.le_refl _) _
  have HN := hide (hN.stays hb1)
  have HX := hide (Boxed.made w nv mv pv 34)
  obtain ⟨a, c, p, kv, rfl, hpa, hpb, hcell⟩ := HN.out.node k hk
  obtain ⟨d0, d1, d2, d3, d4, d5, hkids⟩ := hcell
  have HD := hide (NodAt.made _ ns[k] kv 78 hkids)
  have HB : Hid (Below w.heap.size w ((w.alloc (.cells #[.slice (some a) ns.length c, mv, pv] 34)).alloc (.cells #[.int .i64 ns[k].kind, .int .i64 ns[k].num, .string ns[k].name, .string ns[k].more, .string ns[k].into, kv] 78))) :=
    hb1.alloc hb1.size _
  have HN2 := hide (HN.out.stays ((Below.refl _ _).alloc (Nat.le_refl _) (.cells #[.int .i64 ns[k].kind, .int .i64 ns[k].num, .string ns[k].name, .string ns[k].more, .string ns[k].into, kv] 78)))
  have HX2 := hide (HX.out.stays ((Below.refl _ _).alloc (Nat.le_refl _) (.cells #[.int .i64 ns[k].kind, .int .i64 ns[k].num, .string ns[k].name, .string ns[k].more, .string ns[k].into, kv] 78)))
  have HH : Hid ((w.alloc (.cells #[.slice (some a) ns.length c, mv, pv] 34)).heap.size = w.heap.size + 1) := by show _ = _; simp
  rw [HH.out] at HD
  obtain ⟨bo, cb, rfl, _⟩ := hkids
  have hi0 : (0 : Int) ≤ (k : Int) := by omega
  have hi1 : (k : Int) < (ns.length : Int) := by omega
  have hklen : (kinds ns k).length = ns[k].kids.length := kinds_len hk
  have hKO := kids_of hnode hklen
  have hkin : kinds ns k = ns[k].kids.map (kidKind ns k) := by rw [kinds, getD_at hk]
  have hsh : shS ns (d + 1) k = signsN ns[k] (fun i => shS ns d (kidN ns[k] i)) (ns[k].kids.map fun y => shS ns d y.toNat) := by rw [shS, getD_at hk]
  have hFT := facts_of hnode
  obtain ⟨x, ex⟩ : ∃ x, ns[k] = x := ⟨_, rfl⟩
  rw [ex] at HD HB HN2 HX2 d0 d1 d2 d3 d4 d5 hkd hkl hnode hkid hKO hsh hkin hFT
  obtain ⟨kd, num, nm, mo, it, ks⟩ := x
  dsimp only at HD HB HN2 HX2 d0 d1 d2 d3 d4 d5 hkd hkl hkid hKO hkin hFT
  subst hkd
  have HNE : Hid (¬ it.toList = []) := fun e => by rw [e] at hkl; cases hkl
  have hkid2 : ∀ y ∈ ks, ∃ m : Nat, y = (m : Int) ∧ m < ns.length ∧ dp m ≤ d := fun y hy => by
    obtain ⟨a1, a2, a3⟩ := hkid y hy
    exact ⟨y.toNat, by omega, by omega, by omega⟩
  have hlen : ks.length = 1 := (by have := hKO.2.1 (by simp); exact this)
  obtain ⟨y0, rfl⟩ : ∃ y0, ks = [y0] := one_of hlen
  obtain ⟨m0, rfl, hm0, hd0⟩ := hkid2 y0 (List.mem_cons_self)
  have hq := kid_kinds (x := ⟨14, num, nm, mo, it, [(m0 : Int)]⟩) hkin hnode (fun y hy => ⟨(hkid y hy).1, (hkid y hy).2.1⟩)
  have q0 : valueQ (ns.getD m0 default).kind = true := hq.1 (by simp) 0 (m0 : Int) rfl rfl
  have s0 := shS_joined hR h10 hm0 hd0
  have n0 : shS ns d m0 ≠ [] := by
    have := (hR.deep m0 hm0).1
    obtain ⟨d', rfl⟩ : ∃ d', d = d' + 1 := ⟨d - 1, by omega⟩
    exact shS_ne ns d' m0
  have C0 := fun w h => hide (l07Value_any hR hl (.slice (some a) ns.length c) mv pv d h10 m0 w hm0 hd0 q0 h)
  have HT : Hid (joinS (shS ns (d + 1) k) = ⟨#[99, 97, 108, 108, 32]⟩ ++ nm ++ ⟨#[32, 46, 32]⟩ ++ mo ++ ⟨#[32, 40, 32]⟩ ++ joinS (shS ns d m0) ++ ⟨#[32, 41]⟩ ++ ⟨#[32, 116, 111, 32]⟩ ++ it) := by
    show _ = _
    rw [hsh]
    show joinS (tx "call" :: nm :: tx "." :: mo :: tx "(" :: (shS ns d m0 ++ tx ")" :: if it.toList.isEmpty then [] else [tx "to", it])) = _
    rw [hkl, if_neg (by decide), joinS_cons _ (by simp), joinS_cons _ (by simp), joinS_cons _ (by simp), joinS_cons _ (by simp), joinS_cons _ (by simp), joinS_app n0 (by simp), joinS_cons _ (by simp), joinS_cons _ (by simp)]
    have c0 : tx "call" ++ ⟨#[32]⟩ = (⟨#[99, 97, 108, 108, 32]⟩ : ByteArray) := by decide +kernel
    have c1 : ⟨#[32]⟩ ++ tx "." ++ ⟨#[32]⟩ = (⟨#[32, 46, 32]⟩ : ByteArray) := by decide +kernel
    have c2 : ⟨#[32]⟩ ++ tx "(" ++ ⟨#[32]⟩ = (⟨#[32, 40, 32]⟩ : ByteArray) := by decide +kernel
    have c3 : ⟨#[32]⟩ ++ tx ")" = (⟨#[32, 41]⟩ : ByteArray) := by decide +kernel
    have c4 : ⟨#[32]⟩ ++ tx "to" ++ ⟨#[32]⟩ = (⟨#[32, 116, 111, 32]⟩ : ByteArray) := by decide +kernel
    simp only [← c0, ← c1, ← c2, ← c3, ← c4, ByteArray.append_assoc, joinS]
  rw [HT.out]
  obtain ⟨t0, et0⟩ : ∃ t, t = joinS (shS ns d m0) := ⟨_, rfl⟩
  rw [← et0] at C0 s0 ⊢
  have hmo := hFT.2 rfl
  have hit : it.size ≤ 8 := hmo.2.resolve_left (by rw [hkl]; decide)
  have hnm : nm.size ≤ 8 := hFT.1 (by simp [namedQ])
  have hc0 : ¬ 9223372036854775807 < 5 + nm.size := by omega
  have hc1 : ¬ 9223372036854775807 < 5 + nm.size + 3 := by omega
  have hc2 : ¬ 9223372036854775807 < 5 + nm.size + 3 + mo.size := by omega
  have hc3 : ¬ 9223372036854775807 < 5 + nm.size + 3 + mo.size + 3 := by omega
  have hc4 : ¬ 9223372036854775807 < 5 + nm.size + 3 + mo.size + 3 + t0.size := by omega
  have hc5 : ¬ 9223372036854775807 < 5 + nm.size + 3 + mo.size + 3 + t0.size + 2 := by omega
  have hc6 : ¬ 9223372036854775807 < 5 + nm.size + 3 + mo.size + 3 + t0.size + 2 + 4 := by omega
  have hc7 : ¬ 9223372036854775807 < 5 + nm.size + 3 + mo.size + 3 + t0.size + 2 + 4 + it.size := by omega
  clear hsh hKO hkid hnode hR hkid2 HT hkin hFT ihB et0 n0 hm0 hd0 q0 hlen hq hkl
  have VW : Hid (VB w (.slice (some a) ns.length c) mv pv ns ⟨14, num, nm, mo, it, [(m0 : Int)]⟩ (.slice bo 1 cb) ((w.alloc (.cells #[.slice (some a) ns.length c, mv, pv] 34)).alloc (.cells #[.int .i64 14, .int .i64 num, .string nm, .string mo, .string it, .slice bo 1 cb] 78))) := ⟨HB.out, HX2.out, HD.out, HN2.out⟩
  have hkd0 : ∃ a0, bo = some a0 ∧ ∀ z, VB w (.slice (some a) ns.length c) mv pv ns ⟨14, num, nm, mo, it, [(m0 : Int)]⟩ (.slice bo 1 cb) z → z.cell? a0 = some (.int .i64 (m0 : Int)) := by
    obtain ⟨ao, c0, e0, hk0⟩ := HD.out.kids
    injection e0 with e1 e2 e3
    subst e1
    obtain ⟨a0, ea0, _, _⟩ := hk0 0 (by simp)
    refine ⟨a0, ea0, fun z hz => ?_⟩
    obtain ⟨ao', c0', e0', hk0'⟩ := hz.nod.kids
    injection e0' with e1' e2' e3'
    subst e1'
    obtain ⟨a1, ea1, _, hz0⟩ := hk0' 0 (by simp)
    rw [ea0] at ea1
    cases ea1
    exact by simpa [go_sem] using hz0
  obtain ⟨a0, rfl, hK0⟩ := hkd0
  have HK := hide hK0
  have KS : Hid (∀ z, VB w (.slice (some a) ns.length c) mv pv ns ⟨14, num, nm, mo, it, [(m0 : Int)]⟩ (.slice (some a0) 1 cb) z → (z.cell? ⟨w.heap.size, 0, none⟩ = some (.slice (some a) ns.length c) ∧ z.cell? ⟨w.heap.size, 1, none⟩ = some mv ∧ z.cell? ⟨w.heap.size, 2, none⟩ = some pv ∧ z.cell? ⟨w.heap.size + 1, 2, none⟩ = some (.string nm) ∧ z.cell? ⟨w.heap.size + 1, 3, none⟩ = some (.string mo) ∧ z.cell? ⟨w.heap.size + 1, 4, none⟩ = some (.string it) ∧ z.cell? ⟨w.heap.size + 1, 5, none⟩ = some (.slice (some a0) 1 cb) ∧ z.cell? a0 = some (.int .i64 (m0 : Int)) ∧ Hid (VB w (.slice (some a) ns.length c) mv pv ns ⟨14, num, nm, mo, it, [(m0 : Int)]⟩ (.slice (some a0) 1 cb) z))) := fun z hz => ⟨hz.box.c0, hz.box.c1, hz.box.c2, hz.nod.c2, hz.nod.c3, hz.nod.c4, hz.nod.c5, (HK.out z hz), hz⟩
  have KN : Hid (∀ z, (z.cell? ⟨w.heap.size, 0, none⟩ = some (.slice (some a) ns.length c) ∧ z.cell? ⟨w.heap.size, 1, none⟩ = some mv ∧ z.cell? ⟨w.heap.size, 2, none⟩ = some pv ∧ z.cell? ⟨w.heap.size + 1, 2, none⟩ = some (.string nm) ∧ z.cell? ⟨w.heap.size + 1, 3, none⟩ = some (.string mo) ∧ z.cell? ⟨w.heap.size + 1, 4, none⟩ = some (.string it) ∧ z.cell? ⟨w.heap.size + 1, 5, none⟩ = some (.slice (some a0) 1 cb) ∧ z.cell? a0 = some (.int .i64 (m0 : Int)) ∧ Hid (VB w (.slice (some a) ns.length c) mv pv ns ⟨14, num, nm, mo, it, [(m0 : Int)]⟩ (.slice (some a0) 1 cb) z)) → NdsAt z (.slice (some a) ns.length c) ns) := fun z hz => hz.2.2.2.2.2.2.2.2.out.nds
  have KV : Hid (∀ z, (z.cell? ⟨w.heap.size, 0, none⟩ = some (.slice (some a) ns.length c) ∧ z.cell? ⟨w.heap.size, 1, none⟩ = some mv ∧ z.cell? ⟨w.heap.size, 2, none⟩ = some pv ∧ z.cell? ⟨w.heap.size + 1, 2, none⟩ = some (.string nm) ∧ z.cell? ⟨w.heap.size + 1, 3, none⟩ = some (.string mo) ∧ z.cell? ⟨w.heap.size + 1, 4, none⟩ = some (.string it) ∧ z.cell? ⟨w.heap.size + 1, 5, none⟩ = some (.slice (some a0) 1 cb) ∧ z.cell? a0 = some (.int .i64 (m0 : Int)) ∧ Hid (VB w (.slice (some a) ns.length c) mv pv ns ⟨14, num, nm, mo, it, [(m0 : Int)]⟩ (.slice (some a0) 1 cb) z)) → VB w (.slice (some a) ns.length c) mv pv ns ⟨14, num, nm, mo, it, [(m0 : Int)]⟩ (.slice (some a0) 1 cb) z) := fun z hz => hz.2.2.2.2.2.2.2.2.out
  have KP : Hid (∀ z z', (z.cell? ⟨w.heap.size, 0, none⟩ = some (.slice (some a) ns.length c) ∧ z.cell? ⟨w.heap.size, 1, none⟩ = some mv ∧ z.cell? ⟨w.heap.size, 2, none⟩ = some pv ∧ z.cell? ⟨w.heap.size + 1, 2, none⟩ = some (.string nm) ∧ z.cell? ⟨w.heap.size + 1, 3, none⟩ = some (.string mo) ∧ z.cell? ⟨w.heap.size + 1, 4, none⟩ = some (.string it) ∧ z.cell? ⟨w.heap.size + 1, 5, none⟩ = some (.slice (some a0) 1 cb) ∧ z.cell? a0 = some (.int .i64 (m0 : Int)) ∧ Hid (VB w (.slice (some a) ns.length c) mv pv ns ⟨14, num, nm, mo, it, [(m0 : Int)]⟩ (.slice (some a0) 1 cb) z)) → Below z.heap.size z z' → (z'.cell? ⟨w.heap.size, 0, none⟩ = some (.slice (some a) ns.length c) ∧ z'.cell? ⟨w.heap.size, 1, none⟩ = some mv ∧ z'.cell? ⟨w.heap.size, 2, none⟩ = some pv ∧ z'.cell? ⟨w.heap.size + 1, 2, none⟩ = some (.string nm) ∧ z'.cell? ⟨w.heap.size + 1, 3, none⟩ = some (.string mo) ∧ z'.cell? ⟨w.heap.size + 1, 4, none⟩ = some (.string it) ∧ z'.cell? ⟨w.heap.size + 1, 5, none⟩ = some (.slice (some a0) 1 cb) ∧ z'.cell? a0 = some (.int .i64 (m0 : Int)) ∧ Hid (VB w (.slice (some a) ns.length c) mv pv ns ⟨14, num, nm, mo, it, [(m0 : Int)]⟩ (.slice (some a0) 1 cb) z'))) := fun z z' h hb => KS.out z' (h.2.2.2.2.2.2.2.2.out.stays hb)
  clear hK0 HB HX2 HD HN2
  go_enter Tryz.func33, Tryz.ntmps33
  go_wp2_with fail
  generalize ((w.alloc (.cells #[.slice (some a) ns.length c, mv, pv] 34)).alloc (.cells #[.int .i64 14, .int .i64 num, .string nm, .string mo, .string it, .slice (some a0) 1 cb] 78)) = W2 at VW ⊢
  have K0 := hide (KS.out _ VW.out.drew)
  clear VW KS
  go_region_held3 (fun z => (z.cell? ⟨w.heap.size, 0, none⟩ = some (.slice (some a) ns.length c) ∧ z.cell? ⟨w.heap.size, 1, none⟩ = some mv ∧ z.cell? ⟨w.heap.size, 2, none⟩ = some pv ∧ z.cell? ⟨w.heap.size + 1, 2, none⟩ = some (.string nm) ∧ z.cell? ⟨w.heap.size + 1, 3, none⟩ = some (.string mo) ∧ z.cell? ⟨w.heap.size + 1, 4, none⟩ = some (.string it) ∧ z.cell? ⟨w.heap.size + 1, 5, none⟩ = some (.slice (some a0) 1 cb) ∧ z.cell? a0 = some (.int .i64 (m0 : Int)) ∧ Hid (VB w (.slice (some a) ns.length c) mv pv ns ⟨14, num, nm, mo, it, [(m0 : Int)]⟩ (.slice (some a0) 1 cb) z))) (first | exact K0.out | exact KP.out _ _ (by assumption) hb4) (((go_at_call 54; refine (unhide (C0 _ (KN.out _ (by assumption)))).mono ?_; rintro e w4 ⟨rfl, hb4⟩)))
  all_goals (have D := hide (KV.out _ (by assumption)))
  all_goals (obtain ⟨g0, g1, g2, g3, g4, g5, _, _⟩ := D.out.nod)
  all_goals (have hne := HNE.out)
  all_goals go_wp2
  all_goals go_ret
  all_goals (first | exact ⟨rfl, D.out.bel⟩ | (exfalso; simp_all))
set_option maxRecDepth 100000 in
set_option maxHeartbeats 4000000 in
theorem l07St_read {ns : List Nd} {dp : Nat → Nat} (hR : RightT ns dp) (d k : Nat) (_h10 : d ≤ 10) (hk : k < ns.length) (hd : dp k ≤ d + 1) (hkd : ns[k].kind = 16) (_hl : ns.length ≤ 1048576) (nv mv pv : Value)
    (ihB : ∀ (j : Nat) (w : World), j < ns.length → dp j ≤ d → (ns.getD j default).kind = 20 → NdsAt w nv ns → Calls Tryz.prog 14 #[.agg #[nv, mv, pv], .int .i64 (j : Int)] w fun e w' => e = .returned (.string (joinS (shS ns d j))) ∧ Below w.heap.size w w')
    (w : World) (hN : NdsAt w nv ns) : Calls Tryz.prog 33 #[.agg #[nv, mv, pv], .int .i64 (k : Int)] w fun e w' => e = .returned (.string (joinS (shS ns (d + 1) k))) ∧ Below w.heap.size w w' := by
  have hnode := hR.node k hk
  have hkid := hR.kid k hk
  rw [getD_at hk] at hnode hkid
  have hb1 : Below w.heap.size w (w.alloc (.cells #[nv, mv, pv] 34)) := (Below.refl _ _).alloc (Nat.le_refl _) _
  have HN := hide (hN.stays hb1)
  have HX := hide (Boxed.made w nv mv pv 34)
  obtain ⟨a, c, p, kv, rfl, hpa, hpb, hcell⟩ := HN.out.node k hk
  obtain ⟨d0, d1, d2, d3, d4, d5, hkids⟩ := hcell
  have HD := hide (NodAt.made _ ns[k] kv 78 hkids)
  have HB : Hid (Below w.heap.size w ((w.alloc (.cells #[.slice (some a) ns.length c, mv, pv] 34)).alloc (.cells #[.int .i64 ns[k].kind, .int .i64 ns[k].num, .string ns[k].name, .string ns[k].more, .string ns[k].into, kv] 78))) :=
    hb1.alloc hb1.size _
  have HN2 := hide (HN.out.stays ((Below.refl _ _).alloc (Nat.le_refl _) (.cells #[.int .i64 ns[k].kind, .int .i64 ns[k].num, .string ns[k].name, .string ns[k].more, .string ns[k].into, kv] 78)))
  have HX2 := hide (HX.out.stays ((Below.refl _ _).alloc (Nat.le_refl _) (.cells #[.int .i64 ns[k].kind, .int .i64 ns[k].num, .string ns[k].name, .string ns[k].more, .string ns[k].into, kv] 78)))
  have HH : Hid ((w.alloc (.cells #[.slice (some a) ns.length c, mv, pv] 34)).heap.size = w.heap.size + 1) := by show _ = _; simp
  rw [HH.out] at HD
  obtain ⟨bo, cb, rfl, _⟩ := hkids
  have hi0 : (0 : Int) ≤ (k : Int) := by omega
  have hi1 : (k : Int) < (ns.length : Int) := by omega
  have hklen : (kinds ns k).length = ns[k].kids.length := kinds_len hk
  have hKO := kids_of hnode hklen
  have hkin : kinds ns k = ns[k].kids.map (kidKind ns k) := by rw [kinds, getD_at hk]
  have hsh : shS ns (d + 1) k = signsN ns[k] (fun i => shS ns d (kidN ns[k] i)) (ns[k].kids.map fun y => shS ns d y.toNat) := by rw [shS, getD_at hk]
  have hFT := facts_of hnode
  obtain ⟨x, ex⟩ : ∃ x, ns[k] = x := ⟨_, rfl⟩
  rw [ex] at HD HB HN2 HX2 d0 d1 d2 d3 d4 d5 hkd hnode hkid hKO hsh hkin hFT
  obtain ⟨kd, num, nm, mo, it, ks⟩ := x
  dsimp only at HD HB HN2 HX2 d0 d1 d2 d3 d4 d5 hkd hkid hKO hkin hFT
  subst hkd
  have hkid2 : ∀ y ∈ ks, ∃ m : Nat, y = (m : Int) ∧ m < ns.length ∧ dp m ≤ d := fun y hy => by
    obtain ⟨a1, a2, a3⟩ := hkid y hy
    exact ⟨y.toNat, by omega, by omega, by omega⟩
  have HT : Hid (joinS (shS ns (d + 1) k) = ⟨#[114, 101, 97, 100, 32]⟩ ++ nm) := by
    show _ = _
    rw [hsh]
    show joinS ([tx "read", nm]) = _
    rw [joinS_cons _ (by simp)]
    have c0 : tx "read" ++ ⟨#[32]⟩ = (⟨#[114, 101, 97, 100, 32]⟩ : ByteArray) := by decide +kernel
    simp only [← c0, ByteArray.append_assoc, joinS]
  rw [HT.out]
  have hnm : nm.size ≤ 8 := hFT.1 (by simp [namedQ])
  have hc0 : ¬ 9223372036854775807 < 5 + nm.size := by omega
  clear hsh hKO hkid hnode hR hkid2 HT hkin hFT ihB
  go_enter Tryz.func33, Tryz.ntmps33
  go_wp2
  go_ret
  exact ⟨rfl, HB.out⟩
set_option maxRecDepth 100000 in
set_option maxHeartbeats 4000000 in
theorem l07St_delay {ns : List Nd} {dp : Nat → Nat} (hR : RightT ns dp) (d k : Nat) (_h10 : d ≤ 10) (hk : k < ns.length) (hd : dp k ≤ d + 1) (hkd : ns[k].kind = 17) (_hl : ns.length ≤ 1048576) (nv mv pv : Value)
    (ihB : ∀ (j : Nat) (w : World), j < ns.length → dp j ≤ d → (ns.getD j default).kind = 20 → NdsAt w nv ns → Calls Tryz.prog 14 #[.agg #[nv, mv, pv], .int .i64 (j : Int)] w fun e w' => e = .returned (.string (joinS (shS ns d j))) ∧ Below w.heap.size w w')
    (w : World) (hN : NdsAt w nv ns) : Calls Tryz.prog 33 #[.agg #[nv, mv, pv], .int .i64 (k : Int)] w fun e w' => e = .returned (.string (joinS (shS ns (d + 1) k))) ∧ Below w.heap.size w w' := by
  have hnode := hR.node k hk
  have hkid := hR.kid k hk
  rw [getD_at hk] at hnode hkid
  have hb1 : Below w.heap.size w (w.alloc (.cells #[nv, mv, pv] 34)) := (Below.refl _ _).alloc (Nat.le_refl _) _
  have HN := hide (hN.stays hb1)
  have HX := hide (Boxed.made w nv mv pv 34)
  obtain ⟨a, c, p, kv, rfl, hpa, hpb, hcell⟩ := HN.out.node k hk
  obtain ⟨d0, d1, d2, d3, d4, d5, hkids⟩ := hcell
  have HD := hide (NodAt.made _ ns[k] kv 78 hkids)
  have HB : Hid (Below w.heap.size w ((w.alloc (.cells #[.slice (some a) ns.length c, mv, pv] 34)).alloc (.cells #[.int .i64 ns[k].kind, .int .i64 ns[k].num, .string ns[k].name, .string ns[k].more, .string ns[k].into, kv] 78))) :=
    hb1.alloc hb1.size _
  have HN2 := hide (HN.out.stays ((Below.refl _ _).alloc (Nat.le_refl _) (.cells #[.int .i64 ns[k].kind, .int .i64 ns[k].num, .string ns[k].name, .string ns[k].more, .string ns[k].into, kv] 78)))
  have HX2 := hide (HX.out.stays ((Below.refl _ _).alloc (Nat.le_refl _) (.cells #[.int .i64 ns[k].kind, .int .i64 ns[k].num, .string ns[k].name, .string ns[k].more, .string ns[k].into, kv] 78)))
  have HH : Hid ((w.alloc (.cells #[.slice (some a) ns.length c, mv, pv] 34)).heap.size = w.heap.size + 1) := by show _ = _; simp
  rw [HH.out] at HD
  obtain ⟨bo, cb, rfl, _⟩ := hkids
  have hi0 : (0 : Int) ≤ (k : Int) := by omega
  have hi1 : (k : Int) < (ns.length : Int) := by omega
  have hklen : (kinds ns k).length = ns[k].kids.length := kinds_len hk
  have hKO := kids_of hnode hklen
  have hkin : kinds ns k = ns[k].kids.map (kidKind ns k) := by rw [kinds, getD_at hk]
  have hsh : shS ns (d + 1) k = signsN ns[k] (fun i => shS ns d (kidN ns[k] i)) (ns[k].kids.map fun y => shS ns d y.toNat) := by rw [shS, getD_at hk]
  have hFT := facts_of hnode
  obtain ⟨x, ex⟩ : ∃ x, ns[k] = x := ⟨_, rfl⟩
  rw [ex] at HD HB HN2 HX2 d0 d1 d2 d3 d4 d5 hkd hnode hkid hKO hsh hkin hFT
  obtain ⟨kd, num, nm, mo, it, ks⟩ := x
  dsimp only at HD HB HN2 HX2 d0 d1 d2 d3 d4 d5 hkd hkid hKO hkin hFT
  subst hkd
  have hkid2 : ∀ y ∈ ks, ∃ m : Nat, y = (m : Int) ∧ m < ns.length ∧ dp m ≤ d := fun y hy => by
    obtain ⟨a1, a2, a3⟩ := hkid y hy
    exact ⟨y.toNat, by omega, by omega, by omega⟩
  have HT : Hid (joinS (shS ns (d + 1) k) = ⟨#[100, 101, 108, 97, 121, 32]⟩ ++ nm) := by
    show _ = _
    rw [hsh]
    show joinS ([tx "delay", nm]) = _
    rw [joinS_cons _ (by simp)]
    have c0 : tx "delay" ++ ⟨#[32]⟩ = (⟨#[100, 101, 108, 97, 121, 32]⟩ : ByteArray) := by decide +kernel
    simp only [← c0, ByteArray.append_assoc, joinS]
  rw [HT.out]
  have hnm : nm.size ≤ 8 := hFT.1 (by simp [namedQ])
  have hc0 : ¬ 9223372036854775807 < 6 + nm.size := by omega
  clear hsh hKO hkid hnode hR hkid2 HT hkin hFT ihB
  go_enter Tryz.func33, Tryz.ntmps33
  go_wp2
  go_ret
  exact ⟨rfl, HB.out⟩
set_option maxRecDepth 100000 in
set_option maxHeartbeats 4000000 in
theorem l07St_cont {ns : List Nd} {dp : Nat → Nat} (hR : RightT ns dp) (d k : Nat) (_h10 : d ≤ 10) (hk : k < ns.length) (hd : dp k ≤ d + 1) (hkd : ns[k].kind = 18) (_hl : ns.length ≤ 1048576) (nv mv pv : Value)
    (ihB : ∀ (j : Nat) (w : World), j < ns.length → dp j ≤ d → (ns.getD j default).kind = 20 → NdsAt w nv ns → Calls Tryz.prog 14 #[.agg #[nv, mv, pv], .int .i64 (j : Int)] w fun e w' => e = .returned (.string (joinS (shS ns d j))) ∧ Below w.heap.size w w')
    (w : World) (hN : NdsAt w nv ns) : Calls Tryz.prog 33 #[.agg #[nv, mv, pv], .int .i64 (k : Int)] w fun e w' => e = .returned (.string (joinS (shS ns (d + 1) k))) ∧ Below w.heap.size w w' := by
  have hnode := hR.node k hk
  have hkid := hR.kid k hk
  rw [getD_at hk] at hnode hkid
  have hb1 : Below w.heap.size w (w.alloc (.cells #[nv, mv, pv] 34)) := (Below.refl _ _).alloc (Nat.le_refl _) _
  have HN := hide (hN.stays hb1)
  have HX := hide (Boxed.made w nv mv pv 34)
  obtain ⟨a, c, p, kv, rfl, hpa, hpb, hcell⟩ := HN.out.node k hk
  obtain ⟨d0, d1, d2, d3, d4, d5, hkids⟩ := hcell
  have HD := hide (NodAt.made _ ns[k] kv 78 hkids)
  have HB : Hid (Below w.heap.size w ((w.alloc (.cells #[.slice (some a) ns.length c, mv, pv] 34)).alloc (.cells #[.int .i64 ns[k].kind, .int .i64 ns[k].num, .string ns[k].name, .string ns[k].more, .string ns[k].into, kv] 78))) :=
    hb1.alloc hb1.size _
  have HN2 := hide (HN.out.stays ((Below.refl _ _).alloc (Nat.le_refl _) (.cells #[.int .i64 ns[k].kind, .int .i64 ns[k].num, .string ns[k].name, .string ns[k].more, .string ns[k].into, kv] 78)))
  have HX2 := hide (HX.out.stays ((Below.refl _ _).alloc (Nat.le_refl _) (.cells #[.int .i64 ns[k].kind, .int .i64 ns[k].num, .string ns[k].name, .string ns[k].more, .string ns[k].into, kv] 78)))
  have HH : Hid ((w.alloc (.cells #[.slice (some a) ns.length c, mv, pv] 34)).heap.size = w.heap.size + 1) := by show _ = _; simp
  rw [HH.out] at HD
  obtain ⟨bo, cb, rfl, _⟩ := hkids
  have hi0 : (0 : Int) ≤ (k : Int) := by omega
  have hi1 : (k : Int) < (ns.length : Int) := by omega
  have hklen : (kinds ns k).length = ns[k].kids.length := kinds_len hk
  have hKO := kids_of hnode hklen
  have hkin : kinds ns k = ns[k].kids.map (kidKind ns k) := by rw [kinds, getD_at hk]
  have hsh : shS ns (d + 1) k = signsN ns[k] (fun i => shS ns d (kidN ns[k] i)) (ns[k].kids.map fun y => shS ns d y.toNat) := by rw [shS, getD_at hk]
  have hFT := facts_of hnode
  obtain ⟨x, ex⟩ : ∃ x, ns[k] = x := ⟨_, rfl⟩
  rw [ex] at HD HB HN2 HX2 d0 d1 d2 d3 d4 d5 hkd hnode hkid hKO hsh hkin hFT
  obtain ⟨kd, num, nm, mo, it, ks⟩ := x
  dsimp only at HD HB HN2 HX2 d0 d1 d2 d3 d4 d5 hkd hkid hKO hkin hFT
  subst hkd
  have hkid2 : ∀ y ∈ ks, ∃ m : Nat, y = (m : Int) ∧ m < ns.length ∧ dp m ≤ d := fun y hy => by
    obtain ⟨a1, a2, a3⟩ := hkid y hy
    exact ⟨y.toNat, by omega, by omega, by omega⟩
  have HT : Hid (joinS (shS ns (d + 1) k) = ⟨#[99, 111, 110, 116, 105, 110, 117, 101, 32]⟩ ++ nm) := by
    show _ = _
    rw [hsh]
    show joinS ([tx "continue", nm]) = _
    rw [joinS_cons _ (by simp)]
    have c0 : tx "continue" ++ ⟨#[32]⟩ = (⟨#[99, 111, 110, 116, 105, 110, 117, 101, 32]⟩ : ByteArray) := by decide +kernel
    simp only [← c0, ByteArray.append_assoc, joinS]
  rw [HT.out]
  have hnm : nm.size ≤ 8 := hFT.1 (by simp [namedQ])
  have hc0 : ¬ 9223372036854775807 < 9 + nm.size := by omega
  clear hsh hKO hkid hnode hR hkid2 HT hkin hFT ihB
  go_enter Tryz.func33, Tryz.ntmps33
  go_wp2
  go_ret
  exact ⟨rfl, HB.out⟩
set_option maxRecDepth 100000 in
set_option maxHeartbeats 4000000 in
theorem l07St_skip {ns : List Nd} {dp : Nat → Nat} (hR : RightT ns dp) (d k : Nat) (_h10 : d ≤ 10) (hk : k < ns.length) (hd : dp k ≤ d + 1) (hkd : ns[k].kind = 19) (_hl : ns.length ≤ 1048576) (nv mv pv : Value)
    (ihB : ∀ (j : Nat) (w : World), j < ns.length → dp j ≤ d → (ns.getD j default).kind = 20 → NdsAt w nv ns → Calls Tryz.prog 14 #[.agg #[nv, mv, pv], .int .i64 (j : Int)] w fun e w' => e = .returned (.string (joinS (shS ns d j))) ∧ Below w.heap.size w w')
    (w : World) (hN : NdsAt w nv ns) : Calls Tryz.prog 33 #[.agg #[nv, mv, pv], .int .i64 (k : Int)] w fun e w' => e = .returned (.string (joinS (shS ns (d + 1) k))) ∧ Below w.heap.size w w' := by
  have hnode := hR.node k hk
  have hkid := hR.kid k hk
  rw [getD_at hk] at hnode hkid
  have hb1 : Below w.heap.size w (w.alloc (.cells #[nv, mv, pv] 34)) := (Below.refl _ _).alloc (Nat.le_refl _) _
  have HN := hide (hN.stays hb1)
  have HX := hide (Boxed.made w nv mv pv 34)
  obtain ⟨a, c, p, kv, rfl, hpa, hpb, hcell⟩ := HN.out.node k hk
  obtain ⟨d0, d1, d2, d3, d4, d5, hkids⟩ := hcell
  have HD := hide (NodAt.made _ ns[k] kv 78 hkids)
  have HB : Hid (Below w.heap.size w ((w.alloc (.cells #[.slice (some a) ns.length c, mv, pv] 34)).alloc (.cells #[.int .i64 ns[k].kind, .int .i64 ns[k].num, .string ns[k].name, .string ns[k].more, .string ns[k].into, kv] 78))) :=
    hb1.alloc hb1.size _
  have HN2 := hide (HN.out.stays ((Below.refl _ _).alloc (Nat.le_refl _) (.cells #[.int .i64 ns[k].kind, .int .i64 ns[k].num, .string ns[k].name, .string ns[k].more, .string ns[k].into, kv] 78)))
  have HX2 := hide (HX.out.stays ((Below.refl _ _).alloc (Nat.le_refl _) (.cells #[.int .i64 ns[k].kind, .int .i64 ns[k].num, .string ns[k].name, .string ns[k].more, .string ns[k].into, kv] 78)))
  have HH : Hid ((w.alloc (.cells #[.slice (some a) ns.length c, mv, pv] 34)).heap.size = w.heap.size + 1) := by show _ = _; simp
  rw [HH.out] at HD
  obtain ⟨bo, cb, rfl, _⟩ := hkids
  have hi0 : (0 : Int) ≤ (k : Int) := by omega
  have hi1 : (k : Int) < (ns.length : Int) := by omega
  have hklen : (kinds ns k).length = ns[k].kids.length := kinds_len hk
  have hKO := kids_of hnode hklen
  have hkin : kinds ns k = ns[k].kids.map (kidKind ns k) := by rw [kinds, getD_at hk]
  have hsh : shS ns (d + 1) k = signsN ns[k] (fun i => shS ns d (kidN ns[k] i)) (ns[k].kids.map fun y => shS ns d y.toNat) := by rw [shS, getD_at hk]
  have hFT := facts_of hnode
  obtain ⟨x, ex⟩ : ∃ x, ns[k] = x := ⟨_, rfl⟩
  rw [ex] at HD HB HN2 HX2 d0 d1 d2 d3 d4 d5 hkd hnode hkid hKO hsh hkin hFT
  obtain ⟨kd, num, nm, mo, it, ks⟩ := x
  dsimp only at HD HB HN2 HX2 d0 d1 d2 d3 d4 d5 hkd hkid hKO hkin hFT
  subst hkd
  have hkid2 : ∀ y ∈ ks, ∃ m : Nat, y = (m : Int) ∧ m < ns.length ∧ dp m ≤ d := fun y hy => by
    obtain ⟨a1, a2, a3⟩ := hkid y hy
    exact ⟨y.toNat, by omega, by omega, by omega⟩
  have HT : Hid (joinS (shS ns (d + 1) k) = ⟨#[115, 107, 105, 112]⟩) := by
    show _ = _
    rw [hsh]
    show joinS ([tx "skip"]) = _
    rw [joinS]
    have c0 : tx "skip" = (⟨#[115, 107, 105, 112]⟩ : ByteArray) := by decide +kernel
    simp only [← c0]
  rw [HT.out]
  clear hsh hKO hkid hnode hR hkid2 HT hkin hFT ihB
  go_enter Tryz.func33, Tryz.ntmps33
  go_wp2
  go_ret
  exact ⟨rfl, HB.out⟩
/-- A statement, told what its blocks are shown as. -/
theorem l07Statement_step {ns : List Nd} {dp : Nat → Nat} (hR : RightT ns dp) (d k : Nat) (h10 : d ≤ 10) (hk : k < ns.length) (hd : dp k ≤ d + 1) (hs : stmtQ (ns.getD k default).kind = true) (hl : ns.length ≤ 1048576) (nv mv pv : Value)
    (ihB : ∀ (j : Nat) (w : World), j < ns.length → dp j ≤ d → (ns.getD j default).kind = 20 → NdsAt w nv ns → Calls Tryz.prog 14 #[.agg #[nv, mv, pv], .int .i64 (j : Int)] w fun e w' => e = .returned (.string (joinS (shS ns d j))) ∧ Below w.heap.size w w')
    (w : World) (hN : NdsAt w nv ns) : Calls Tryz.prog 33 #[.agg #[nv, mv, pv], .int .i64 (k : Int)] w fun e w' => e = .returned (.string (joinS (shS ns (d + 1) k))) ∧ Below w.heap.size w w' := by
  have hnode := hR.node k hk
  have hKO := kids_of hnode (by rw [kinds, List.length_map])
  rw [getD_at hk] at hs hKO
  have hkd : ns[k].kind = 11 ∨ ns[k].kind = 12 ∨ ns[k].kind = 13 ∨ ns[k].kind = 14 ∨ ns[k].kind = 15 ∨ ns[k].kind = 16 ∨ ns[k].kind = 17 ∨ ns[k].kind = 18 ∨ ns[k].kind = 19 := by
    simp only [stmtQ, inZ, decide_eq_true_eq] at hs
    omega
  rcases hkd with e | e | e | e | e | e | e | e | e
  · exact l07St_set hR d k h10 hk hd e hl nv mv pv ihB w hN
  · rcases hKO.2.2.1 e with h | h
    · exact l07St_if2 hR d k h10 hk hd e h hl nv mv pv ihB w hN
    · exact l07St_if3 hR d k h10 hk hd e h hl nv mv pv ihB w hN
  · exact l07St_while hR d k h10 hk hd e hl nv mv pv ihB w hN
  · cases h : ns[k].into.toList.isEmpty with
    | true => exact l07St_call0 hR d k h10 hk hd e h hl nv mv pv ihB w hN
    | false => exact l07St_call1 hR d k h10 hk hd e h hl nv mv pv ihB w hN
  · exact l07St_print hR d k h10 hk hd e hl nv mv pv ihB w hN
  · exact l07St_read hR d k h10 hk hd e hl nv mv pv ihB w hN
  · exact l07St_delay hR d k h10 hk hd e hl nv mv pv ihB w hN
  · exact l07St_cont hR d k h10 hk hd e hl nv mv pv ihB w hN
  · exact l07St_skip hR d k h10 hk hd e hl nv mv pv ihB w hN
end Go.Proofs.YtdfahpachbhglaaGreatDoor

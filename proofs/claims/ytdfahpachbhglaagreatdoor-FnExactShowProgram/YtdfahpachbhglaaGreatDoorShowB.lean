/-
  Showing, by the specification: blocks.
-/
import Derived.Test.YtdfahpachbhglaaGreatDoorShowT
namespace Go.Proofs.YtdfahpachbhglaaGreatDoor
open Go.RowKit

/-- A block's text so far. -/
def semiT : List ByteArray → ByteArray
  | [] => ⟨#[98, 101, 103, 105, 110, 32]⟩
  | xs => xs.tail.foldl (fun s x => s ++ ⟨#[32, 59, 32]⟩ ++ x) (⟨#[98, 101, 103, 105, 110, 32]⟩ ++ xs.headD ByteArray.empty)
theorem semiT_more {xs : List ByteArray} (h : xs ≠ []) (x : ByteArray) : semiT (xs ++ [x]) = semiT xs ++ ⟨#[32, 59, 32]⟩ ++ x := by
  cases xs with
  | nil => exact absurd rfl h
  | cons a r => simp [semiT, List.foldl_append]
theorem between_ne (s : ByteArray) : ∀ {ls : List (List ByteArray)}, ls ≠ [] → (∀ l ∈ ls, l ≠ []) → between s ls ≠ []
  | [], h, _ => absurd rfl h
  | [a], _, h => h a List.mem_cons_self
  | a :: b :: r, _, _ => by simp [between]
theorem between_join (s : ByteArray) : ∀ {ls : List (List ByteArray)} (_ : ls ≠ []) (_ : ∀ l ∈ ls, l ≠ []) (x : List ByteArray) (_ : x ≠ []), joinS (between s (ls ++ [x])) = joinS (between s ls) ++ ⟨#[32]⟩ ++ s ++ ⟨#[32]⟩ ++ joinS x
  | [], h, _, _, _ => absurd rfl h
  | [a], _, h, x, hx => by
    show joinS (a ++ s :: x) = joinS a ++ _ ++ s ++ _ ++ joinS x
    rw [joinS_app (h a List.mem_cons_self) (by simp), joinS_cons _ hx]
    simp only [ByteArray.append_assoc]
  | a :: b :: r, _, h, x, hx => by
    have ha := h a List.mem_cons_self
    have hr : ∀ l ∈ b :: r, l ≠ [] := fun l hl => h l (List.mem_cons_of_mem _ hl)
    have e1 : between s (a :: b :: r ++ [x]) = a ++ s :: between s (b :: r ++ [x]) := rfl
    have e2 : between s (a :: b :: r) = a ++ s :: between s (b :: r) := rfl
    have h1 : between s (b :: r ++ [x]) ≠ [] := between_ne s (by simp) (fun l hl => by
      rcases List.mem_append.1 hl with hl | hl
      · exact hr l hl
      · rw [List.mem_singleton.1 hl]; exact hx)
    have h2 : between s (b :: r) ≠ [] := between_ne s (by simp) hr
    rw [e1, e2, joinS_app ha (by simp), joinS_app ha (by simp), joinS_cons _ h1, joinS_cons _ h2, between_join s (by simp) hr x hx]
    simp only [ByteArray.append_assoc]
theorem snoc_ind {α : Type} {P : List α → Prop} (h0 : P []) (hs : ∀ l x, P l → P (l ++ [x])) (l : List α) : P l := by
  have key : ∀ l : List α, P l.reverse := fun l => by
    induction l with
    | nil => exact h0
    | cons a l ih => rw [List.reverse_cons]; exact hs _ _ ih
  have := key l.reverse
  rwa [List.reverse_reverse] at this
/-- What is shown of a block, statement by statement. -/
theorem block_text : ∀ (ls : List (List ByteArray)), ls ≠ [] → (∀ l ∈ ls, l ≠ []) → joinS (tx "begin" :: between (tx ";") ls) = semiT (ls.map joinS) := by
  refine snoc_ind (fun h => absurd rfl h) fun ls x ih => ?_
  · intro _ hl
    have hx : x ≠ [] := hl x (by simp)
    have hl' : ∀ l ∈ ls, l ≠ [] := fun l h => hl l (List.mem_append_left _ h)
    have c0 : tx "begin" ++ ⟨#[32]⟩ = (⟨#[98, 101, 103, 105, 110, 32]⟩ : ByteArray) := by decide +kernel
    have c1 : (⟨#[32]⟩ : ByteArray) ++ tx ";" ++ ⟨#[32]⟩ = ⟨#[32, 59, 32]⟩ := by decide +kernel
    by_cases h0 : ls = []
    · subst h0
      show joinS (tx "begin" :: x) = _ ++ joinS x
      rw [joinS_cons _ hx, c0]
    · have h1 := ih h0 hl'
      have h2 := between_ne (tx ";") h0 hl'
      have h3 : between (tx ";") (ls ++ [x]) ≠ [] := between_ne _ (by simp) hl
      rw [List.map_append, List.map_singleton, semiT_more (by simpa using h0), ← h1, joinS_cons _ h3, joinS_cons _ h2, between_join _ h0 hl' x hx]
      simp only [← c1, ByteArray.append_assoc]
theorem semiT_size {m : Nat} : ∀ (xs : List ByteArray), (∀ x ∈ xs, x.size ≤ m) → (semiT xs).size ≤ 6 + xs.length * (m + 3) := by
  refine snoc_ind (fun _ => ?_) fun l x ih h => ?_
  · show (6 : Nat) ≤ _
    omega
  · have hx := h x (by simp)
    have hl := ih (fun y hy => h y (List.mem_append_left _ hy))
    have e1 : (⟨#[32, 59, 32]⟩ : ByteArray).size = 3 := rfl
    have e2 : (⟨#[98, 101, 103, 105, 110, 32]⟩ : ByteArray).size = 6 := rfl
    by_cases h0 : l = []
    · subst h0
      show (_ ++ x).size ≤ _
      rw [size_app, e2]
      simp
      omega
    · rw [semiT_more h0, size_app, size_app, e1, List.length_append, List.length_singleton, Nat.succ_mul]
      omega
/-- What stays while a block is shown. -/
structure BB (w : World) (nv mv pv : Value) (ns : List Nd) (ks : List Int) (kv : Value) (z : World) : Prop where
  bel : Below w.heap.size w z
  box : Boxed w.heap.size z nv mv pv
  kids : IntsAt z kv ks
  nds : NdsAt z nv ns
theorem BB.stays {w z z' : World} {nv mv pv kv : Value} {ns : List Nd} {ks : List Int} (h : BB w nv mv pv ns ks kv z) (hb : Below z.heap.size z z') : BB w nv mv pv ns ks kv z' :=
  ⟨h.bel.trans (hb.mono h.bel.size), h.box.stays hb, h.kids.stays hb, h.nds.stays hb⟩
theorem BB.drew {w z : World} {nv mv pv kv : Value} {ns : List Nd} {ks : List Int} (h : BB w nv mv pv ns ks kv z) : BB w nv mv pv ns ks kv z.drew := h.stays (Below.refl _ _).drew
def BlkRel (w : World) (nv mv pv : Value) (ns : List Nd) (ks : List Int) (kv : Value) (d n : Nat) (sv iv : Value) (wr : World) : Prop :=
  ∃ i : Nat, i ≤ n ∧ sv = .string (semiT ((ks.take i).map fun y => joinS (shS ns d y.toNat))) ∧ iv = .int .i64 i ∧ Hid (BB w nv mv pv ns ks kv wr)
/-- The kids of a block are statements. -/
theorem kid_stmts {ns : List Nd} {k : Nat} {x : Nd} (hk : kinds ns k = x.kids.map (kidKind ns k)) (h : nodeB x (kinds ns k) = true) (hy : ∀ y ∈ x.kids, 0 ≤ y ∧ y < (k : Int)) (hkd : x.kind = 20) : ∀ y ∈ x.kids, stmtQ (ns.getD y.toNat default).kind = true := fun y hm => by
  have h2 : kidsB x.kind (kinds ns k) = true := by
    simp only [nodeB, Bool.and_eq_true] at h
    exact h.1.1.1.2
  unfold kidsB at h2
  rw [if_neg (by omega), if_neg (by omega), if_neg (by omega), if_neg (by omega), if_neg (by omega)] at h2
  simp only [Bool.and_eq_true, List.all_eq_true] at h2
  have := h2.1 (kidKind ns k y) (by rw [hk]; exact List.mem_map.2 ⟨y, hm, rfl⟩)
  rw [kindK_at (hy y hm)] at this
  exact this

set_option maxRecDepth 100000 in
set_option maxHeartbeats 4000000 in
theorem l07Block_step {ns : List Nd} {dp : Nat → Nat} (hR : RightT ns dp) (d k : Nat) (h10 : d ≤ 10) (hk : k < ns.length) (hd : dp k ≤ d + 1) (hkd : (ns.getD k default).kind = 20) (nv mv pv : Value)
    (ihS : ∀ (j : Nat) (w : World), j < ns.length → dp j ≤ d → stmtQ (ns.getD j default).kind = true → NdsAt w nv ns → Calls Tryz.prog 33 #[.agg #[nv, mv, pv], .int .i64 (j : Int)] w fun e w' => e = .returned (.string (joinS (shS ns d j))) ∧ Below w.heap.size w w')
    (w : World) (hN : NdsAt w nv ns) : Calls Tryz.prog 14 #[.agg #[nv, mv, pv], .int .i64 (k : Int)] w fun e w' => e = .returned (.string (joinS (shS ns (d + 1) k))) ∧ Below w.heap.size w w' := by
  have hnode := hR.node k hk
  have hkid := hR.kid k hk
  have hKO := kids_of hnode (by rw [kinds, List.length_map])
  have hst := kid_stmts (x := ns.getD k default) rfl hnode (fun y hy => ⟨(hkid y hy).1, (hkid y hy).2.1⟩) hkd
  have hsh : shS ns (d + 1) k = signsN (ns.getD k default) (fun i => shS ns d (kidN (ns.getD k default) i)) ((ns.getD k default).kids.map fun y => shS ns d y.toNat) := rfl
  rw [getD_at hk] at hkid hKO hst hsh hkd
  have hb1 : Below w.heap.size w (w.alloc (.cells #[nv, mv, pv] 34)) := (Below.refl _ _).alloc (Nat.le_refl _) _
  have HN := hide (hN.stays hb1)
  have HX := hide (Boxed.made w nv mv pv 34)
  obtain ⟨a, c, p, kv, rfl, hpa, hpb, hcell⟩ := HN.out.node k hk
  obtain ⟨d0, d1, d2, d3, d4, d5, hkids⟩ := hcell
  have hi0 : (0 : Int) ≤ (k : Int) := by omega
  have hi1 : (k : Int) < (ns.length : Int) := by omega
  obtain ⟨x, ex⟩ : ∃ x, ns[k] = x := ⟨_, rfl⟩
  rw [ex] at d0 d1 d2 d3 d4 hkd hkid hKO hst hsh hkids
  obtain ⟨kd, num, nm, mo, it, ks⟩ := x
  dsimp only at d0 d1 d2 d3 d4 hkd hkid hKO hst hkids
  subst hkd
  have h12 := hKO.2.2.2.2 rfl
  have hj : ∀ y ∈ ks, ∃ m : Nat, y = (m : Int) ∧ m < ns.length ∧ dp m ≤ d ∧ stmtQ (ns.getD m default).kind = true := fun y hy => by
    obtain ⟨a1, a2, a3⟩ := hkid y hy
    exact ⟨y.toNat, by omega, by omega, by omega, hst y hy⟩
  have hne : ∀ y ∈ ks, shS ns d y.toNat ≠ [] := fun y hy => by
    obtain ⟨m, rfl, h1, h2, _⟩ := hj y hy
    have := (hR.deep m h1).1
    obtain ⟨d', rfl⟩ : ∃ d', d = d' + 1 := ⟨d - 1, by omega⟩
    exact shS_ne ns d' _
  have HT : Hid (joinS (shS ns (d + 1) k) = semiT (ks.map fun y => joinS (shS ns d y.toNat)) ++ ⟨#[32, 101, 110, 100]⟩) := by
    show _ = _
    rw [hsh]
    have hls : (ks.map fun y => shS ns d y.toNat) ≠ [] := fun e => by
      have := congrArg List.length e
      simp at this
      rw [this] at h12
      simp at h12
    have hll : ∀ l ∈ (ks.map fun y => shS ns d y.toNat), l ≠ [] := fun l hl => by
      obtain ⟨y, hy, rfl⟩ := List.mem_map.1 hl
      exact hne y hy
    have hb := between_ne (tx ";") hls hll
    have ht := block_text _ hls hll
    rw [joinS_cons _ hb, List.map_map] at ht
    show joinS (tx "begin" :: (between (tx ";") (ks.map fun y => shS ns d y.toNat) ++ [tx "end"])) = _
    rw [joinS_cons _ (by simp), joinS_app hb (by simp), ← ByteArray.append_assoc, ← ByteArray.append_assoc, ht]
    have c0 : (⟨#[32]⟩ : ByteArray) ++ tx "end" = ⟨#[32, 101, 110, 100]⟩ := by decide +kernel
    rw [← c0, ByteArray.append_assoc]
    rfl
  have hsz : ∀ i, (semiT ((ks.take i).map fun y => joinS (shS ns d y.toNat))).size ≤ 800000000000000 := fun i => by
    refine Nat.le_trans (semiT_size (m := 60000000000000) _ (fun t ht => ?_)) ?_
    · obtain ⟨y, hy, rfl⟩ := List.mem_map.1 ht
      obtain ⟨m, rfl, h1, h2, _⟩ := hj y (List.mem_of_mem_take hy)
      exact shS_joined hR h10 h1 h2
    · have : ((ks.take i).map fun y => joinS (shS ns d y.toNat)).length ≤ 12 := by rw [List.length_map, List.length_take]; omega
      have := Nat.mul_le_mul_right (60000000000000 + 3) this
      omega
  rw [HT.out]
  have HZ := hide hsz
  have HJ := hide hj
  have CS := fun (m : Nat) w (h1 : m < ns.length) (h2 : dp m ≤ d) (h3 : stmtQ (ns.getD m default).kind = true) h => hide (ihS m w h1 h2 h3 h)
  have HSJ : Hid (∀ m, m < ns.length → dp m ≤ d → (joinS (shS ns d m)).size ≤ 60000000000000) := fun m h1 h2 => shS_joined hR h10 h1 h2
  have VB0 : Hid (BB w (.slice (some a) ns.length c) mv pv ns ks kv (w.alloc (.cells #[.slice (some a) ns.length c, mv, pv] 34))) := ⟨hb1, HX.out, hkids, HN.out⟩
  obtain ⟨bo, cb, rfl, _⟩ := hkids
  obtain ⟨n, en⟩ : ∃ n, ks.length = n := ⟨_, rfl⟩
  have EN := hide en
  rw [en] at VB0 d5 h12
  clear hsh hKO hkid hnode hR hj hne hst hsz ihS HN HX HT en hd hb1
  go_enter Tryz.func14, Tryz.ntmps14
  go_wp2
  generalize w.alloc (.cells #[.slice (some a) ns.length c, mv, pv] 34) = W1 at VB0 ⊢
  go_loopw [5, 7] (BlkRel w (.slice (some a) ns.length c) mv pv ns ks (.slice bo n cb) d n) (fun _ iv _ => n - (intOf iv).toNat)
  case atStart => exact ⟨0, Nat.zero_le _, rfl, rfl, VB0⟩
  case round =>
    obtain ⟨i, hi, rfl, rfl, HBB⟩ := hrel
    have hs := HZ.out i
    have HS0 : Hid (∀ y, ks[i]? = some y → (ks.take (i + 1)).map (fun y => joinS (shS ns d y.toNat)) = (ks.take i).map (fun y => joinS (shS ns d y.toNat)) ++ [joinS (shS ns d y.toNat)]) := fun y hy => by
      have hlt := (List.getElem?_eq_some_iff.1 hy).1
      rw [List.take_succ_eq_append_getElem hlt, List.map_append, List.map_singleton, (List.getElem?_eq_some_iff.1 hy).2]
    by_cases hlt : i < n
    · have hlt' : (i : Int) < (n : Int) := by omega
      have hi0' : (0 : Int) ≤ (i : Int) := by omega
      have hix : i < ks.length := by rw [EN.out]; exact hlt
      have hki : ks[i]? = some ks[i] := List.getElem?_eq_getElem hix
      obtain ⟨m, em, hm1, hm2, hm3⟩ := HJ.out ks[i] (List.getElem_mem hix)
      rw [em] at hki
      have HF0 := hide (HS0.out _ hki)
      have hsm := HSJ.out m hm1 hm2
      have CM := fun w h => CS m w hm1 hm2 hm3 h
      obtain ⟨ao', c', e1, hk0⟩ := HBB.out.kids
      injection e1 with e2 e3 e4
      subst e2
      obtain ⟨a0, ea0, _, _⟩ := hk0 i hix
      subst ea0
      have KS : Hid (∀ z, BB w (.slice (some a) ns.length c) mv pv ns ks (.slice (some a0) n cb) z → (z.cell? ⟨w.heap.size, 0, none⟩ = some (.slice (some a) ns.length c) ∧ z.cell? ⟨w.heap.size, 1, none⟩ = some mv ∧ z.cell? ⟨w.heap.size, 2, none⟩ = some pv ∧ z.cell? (a0.add i) = some (.int .i64 (m : Int)) ∧ Hid (BB w (.slice (some a) ns.length c) mv pv ns ks (.slice (some a0) n cb) z))) := fun z hz => by
        obtain ⟨ao', c', e1, hk0⟩ := hz.kids
        injection e1 with e2 e3 e4
        subst e2
        obtain ⟨a1, ea1, _, hc1⟩ := hk0 i hix
        cases ea1
        rw [em] at hc1
        exact ⟨hz.box.c0, hz.box.c1, hz.box.c2, hc1, hz⟩
      have KN : Hid (∀ z, (z.cell? ⟨w.heap.size, 0, none⟩ = some (.slice (some a) ns.length c) ∧ z.cell? ⟨w.heap.size, 1, none⟩ = some mv ∧ z.cell? ⟨w.heap.size, 2, none⟩ = some pv ∧ z.cell? (a0.add i) = some (.int .i64 (m : Int)) ∧ Hid (BB w (.slice (some a) ns.length c) mv pv ns ks (.slice (some a0) n cb) z)) → NdsAt z (.slice (some a) ns.length c) ns) := fun z hz => hz.2.2.2.2.out.nds
      have KV : Hid (∀ z, (z.cell? ⟨w.heap.size, 0, none⟩ = some (.slice (some a) ns.length c) ∧ z.cell? ⟨w.heap.size, 1, none⟩ = some mv ∧ z.cell? ⟨w.heap.size, 2, none⟩ = some pv ∧ z.cell? (a0.add i) = some (.int .i64 (m : Int)) ∧ Hid (BB w (.slice (some a) ns.length c) mv pv ns ks (.slice (some a0) n cb) z)) → BB w (.slice (some a) ns.length c) mv pv ns ks (.slice (some a0) n cb) z) := fun z hz => hz.2.2.2.2.out
      have KP : Hid (∀ z z', (z.cell? ⟨w.heap.size, 0, none⟩ = some (.slice (some a) ns.length c) ∧ z.cell? ⟨w.heap.size, 1, none⟩ = some mv ∧ z.cell? ⟨w.heap.size, 2, none⟩ = some pv ∧ z.cell? (a0.add i) = some (.int .i64 (m : Int)) ∧ Hid (BB w (.slice (some a) ns.length c) mv pv ns ks (.slice (some a0) n cb) z)) → Below z.heap.size z z' → (z'.cell? ⟨w.heap.size, 0, none⟩ = some (.slice (some a) ns.length c) ∧ z'.cell? ⟨w.heap.size, 1, none⟩ = some mv ∧ z'.cell? ⟨w.heap.size, 2, none⟩ = some pv ∧ z'.cell? (a0.add i) = some (.int .i64 (m : Int)) ∧ Hid (BB w (.slice (some a) ns.length c) mv pv ns ks (.slice (some a0) n cb) z'))) := fun z z' h hb => KS.out z' (h.2.2.2.2.out.stays hb)
      have hnz : (Int.toNat (m : Int)) = m := Int.toNat_natCast m
      rw [hnz] at HF0
      obtain ⟨t, et⟩ : ∃ t, t = joinS (shS ns d m) := ⟨_, rfl⟩
      rw [← et] at CM hsm HF0
      obtain ⟨q, eq⟩ : ∃ q, q = semiT ((ks.take i).map fun y => joinS (shS ns d y.toNat)) := ⟨_, rfl⟩
      have EQ := hide eq
      rw [← eq] at hs ⊢
      clear hki hm1 hm2 hm3 hk0 e3 e4 et eq em hnz CS HSJ
      rcases Nat.eq_zero_or_pos i with h0 | h0
      · have hp : ¬ (0 : Int) < (i : Int) := by omega
        have HF : Hid (semiT ((ks.take (i + 1)).map fun y => joinS (shS ns d y.toNat)) = q ++ t) := by
          show _ = _
          rw [HF0.out, EQ.out, h0]
          rfl
        have hc0 : ¬ 9223372036854775807 < q.size + t.size := by omega
        clear h0 hlt
        have K0 := hide (KS.out _ HBB.out.drew)
        go_wp2_with fail
        go_region_held3 (fun z => (z.cell? ⟨w.heap.size, 0, none⟩ = some (.slice (some a) ns.length c) ∧ z.cell? ⟨w.heap.size, 1, none⟩ = some mv ∧ z.cell? ⟨w.heap.size, 2, none⟩ = some pv ∧ z.cell? (a0.add i) = some (.int .i64 (m : Int)) ∧ Hid (BB w (.slice (some a) ns.length c) mv pv ns ks (.slice (some a0) n cb) z))) (first | exact K0.out | exact KP.out _ _ (by assumption) hb4) ((go_at_call 33; refine (unhide (CM _ (KN.out _ (by assumption)))).mono ?_; rintro e w4 ⟨rfl, hb4⟩))
        all_goals (have D := hide (KV.out _ (by assumption)))
        all_goals
          go_wp2
          go_roundw
          case rel => exact ⟨i + 1, by omega, by rw [HF.out], by go_num, D⟩
          case measure => simp [intOf]; omega
      · have hp : (0 : Int) < (i : Int) := by omega
        have HF : Hid (semiT ((ks.take (i + 1)).map fun y => joinS (shS ns d y.toNat)) = q ++ ⟨#[32, 59, 32]⟩ ++ t) := by
          show _ = _
          rw [HF0.out, semiT_more (fun e => by have := congrArg List.length e; rw [List.length_map, List.length_take] at this; simp only [List.length_nil] at this; omega), ← EQ.out]
        have hc0 : ¬ 9223372036854775807 < q.size + 3 := by omega
        have hc1 : ¬ 9223372036854775807 < q.size + 3 + t.size := by omega
        clear h0 hlt
        have K0 := hide (KS.out _ HBB.out.drew)
        go_wp2_with fail
        go_region_held3 (fun z => (z.cell? ⟨w.heap.size, 0, none⟩ = some (.slice (some a) ns.length c) ∧ z.cell? ⟨w.heap.size, 1, none⟩ = some mv ∧ z.cell? ⟨w.heap.size, 2, none⟩ = some pv ∧ z.cell? (a0.add i) = some (.int .i64 (m : Int)) ∧ Hid (BB w (.slice (some a) ns.length c) mv pv ns ks (.slice (some a0) n cb) z))) (first | exact K0.out | exact KP.out _ _ (by assumption) hb4) ((go_at_call 33; refine (unhide (CM _ (KN.out _ (by assumption)))).mono ?_; rintro e w4 ⟨rfl, hb4⟩))
        all_goals (have D := hide (KV.out _ (by assumption)))
        all_goals
          go_wp2
          go_roundw
          case rel => exact ⟨i + 1, by omega, by rw [HF.out], by go_num, D⟩
          case measure => simp [intOf]; omega
    · have e : i = n := by omega
      subst e
      have HE : Hid ((ks.take i) = ks) := List.take_of_length_le (by rw [EN.out]; exact Nat.le_refl _)
      rw [HE.out] at hs ⊢
      obtain ⟨q, eq⟩ : ∃ q, q = semiT (ks.map fun y => joinS (shS ns d y.toNat)) := ⟨_, rfl⟩
      rw [← eq] at hs ⊢
      have hc0 : ¬ 9223372036854775807 < q.size + 4 := by omega
      have HQ := hide eq
      clear eq
      go_wp2
      go_ret
      exact ⟨by rw [← HQ.out]; rfl, HBB.out.bel⟩
end Go.Proofs.YtdfahpachbhglaaGreatDoor

namespace Go.Proofs.YtdfahpachbhglaaGreatDoor
open Go.RowKit

theorem l07Block_any {ns : List Nd} {dp : Nat → Nat} (hR : RightT ns dp) (hl : ns.length ≤ 1048576) (nv mv pv : Value) : ∀ (d : Nat), d ≤ 10 → ∀ (k : Nat) (w : World), k < ns.length → dp k ≤ d → (ns.getD k default).kind = 20 → NdsAt w nv ns →
    Calls Tryz.prog 14 #[.agg #[nv, mv, pv], .int .i64 (k : Int)] w fun e w' => e = .returned (.string (joinS (shS ns d k))) ∧ Below w.heap.size w w' := by
  intro d
  induction d using Nat.strongRecOn with
  | _ d ih =>
    intro h10 k w hk hd hkd hN
    have h1 := (hR.deep k hk).1
    obtain ⟨e, rfl⟩ : ∃ e, d = e + 1 := ⟨d - 1, by omega⟩
    refine l07Block_step hR e k (by omega) hk hd hkd nv mv pv (fun j w hj hdj hsj hNj => ?_) w hN
    have h2 := (hR.deep j hj).1
    obtain ⟨f, rfl⟩ : ∃ f, e = f + 1 := ⟨e - 1, by omega⟩
    exact l07Statement_step hR f j (by omega) hj hdj hsj hl nv mv pv (fun i w hi hdi hki hNi => ih f (by omega) (by omega) i w hi hdi hki hNi) w hNj
end Go.Proofs.YtdfahpachbhglaaGreatDoor

namespace Go.Proofs.YtdfahpachbhglaaGreatDoor
open Go.RowKit

def entT (T : Nat → ByteArray) (s : ByteArray) (e : En) : ByteArray :=
  s ++ ⟨#[101, 110, 116, 114, 121, 32]⟩ ++ e.name ++ ⟨#[32, 40, 32]⟩ ++ e.param ++ ⟨#[32, 41, 32]⟩ ++ T e.body.toNat ++ ⟨#[32, 59, 32]⟩
/-- A monitor up to its entries. -/
def monH (s : ByteArray) (m : Mo) : ByteArray :=
  s ++ ⟨#[109, 111, 110, 105, 116, 111, 114, 32]⟩ ++ m.name ++ ⟨#[32, 59, 32]⟩ ++ listT ⟨#[118, 97, 114]⟩ m.vars ++ listT ⟨#[113, 117, 101, 117, 101]⟩ m.queues
def monT (T : Nat → ByteArray) (s : ByteArray) (m : Mo) : ByteArray := m.ents.foldl (entT T) (monH s m) ++ ⟨#[101, 110, 100, 32, 59, 32]⟩
/-- A process up to its end of line. -/
def prcH (s : ByteArray) (p : Pr) : ByteArray :=
  if p.uses = [] then s ++ ⟨#[112, 114, 111, 99, 101, 115, 115, 32]⟩ ++ p.name else s ++ ⟨#[112, 114, 111, 99, 101, 115, 115, 32]⟩ ++ p.name ++ namesT ⟨#[32, 117, 115, 101, 115]⟩ p.uses
def prcT (T : Nat → ByteArray) (s : ByteArray) (p : Pr) : ByteArray := prcH s p ++ ⟨#[32, 59, 32]⟩ ++ listT ⟨#[118, 97, 114]⟩ p.vars ++ T p.body.toNat ++ ⟨#[32, 59, 32]⟩
def shwT (T : Nat → ByteArray) (x : Pg) : ByteArray := x.pros.foldl (prcT T) (x.mons.foldl (monT T) ByteArray.empty) ++ ⟨#[46]⟩
/-- What is shown of a program: its text, and true; nothing, and false. -/
def showP (x : Pg) : ByteArray × Bool :=
  if specProgB x = true then (if (shwT (fun k => joinS (shS x.nodes 10 k)) x).size ≤ 1500 then (shwT (fun k => joinS (shS x.nodes 10 k)) x, true) else (ByteArray.empty, false)) else (ByteArray.empty, false)

theorem listT_size (word : ByteArray) {m : Nat} (xs : List ByteArray) (h : ∀ x ∈ xs, x.size ≤ m) : (listT word xs).size ≤ word.size + xs.length * (m + 3) + 3 := by
  unfold listT
  split
  · show (0 : Nat) ≤ _
    omega
  · have h1 := namesT_size word xs h
    have e : (⟨#[32, 59, 32]⟩ : ByteArray).size = 3 := rfl
    rw [size_app, e]
    omega
theorem names_fit {xs : List ByteArray} {n : Nat} (h : namesB xs n = true) : xs.length ≤ n ∧ ∀ x ∈ xs, x.size ≤ 8 := by
  simp only [namesB, Bool.and_eq_true, List.all_eq_true, decide_eq_true_eq] at h
  exact ⟨by omega, fun x hx => nameB_size (h.1 x hx)⟩
theorem entT_size {T : Nat → ByteArray} {s : ByteArray} {e : En} {m : Nat} (h : entB e = true) (hT : (T e.body.toNat).size ≤ m) : (entT T s e).size ≤ s.size + m + 40 := by
  simp only [entB, Bool.and_eq_true] at h
  have h1 := nameB_size h.1
  have h2 := nameB_size h.2
  unfold entT
  simp only [size_app]
  have e1 : (⟨#[101, 110, 116, 114, 121, 32]⟩ : ByteArray).size = 6 := rfl
  have e2 : (⟨#[32, 40, 32]⟩ : ByteArray).size = 3 := rfl
  have e3 : (⟨#[32, 41, 32]⟩ : ByteArray).size = 3 := rfl
  have e4 : (⟨#[32, 59, 32]⟩ : ByteArray).size = 3 := rfl
  rw [e1, e2, e3, e4]
  omega
theorem ents_size {T : Nat → ByteArray} {m : Nat} : ∀ (es : List En) (s : ByteArray), (∀ e ∈ es, entB e = true ∧ (T e.body.toNat).size ≤ m) → (es.foldl (entT T) s).size ≤ s.size + es.length * (m + 40)
  | [], s, _ => by simp
  | e :: es, s, h => by
    have h1 := h e List.mem_cons_self
    have h2 := entT_size (s := s) h1.1 h1.2
    have h3 := ents_size es (entT T s e) (fun x hx => h x (List.mem_cons_of_mem _ hx))
    rw [List.foldl_cons, List.length_cons, Nat.succ_mul]
    omega
theorem monH_size {s : ByteArray} {x : Mo} (h : monB x = true) : (monH s x).size ≤ s.size + 200 := by
  simp only [monB, Bool.and_eq_true] at h
  have h1 := nameB_size h.1.1.1.1
  have h2 := names_fit (n := 3) h.1.1.1.2
  have h3 := names_fit (n := 2) h.1.1.2
  have l1 := listT_size ⟨#[118, 97, 114]⟩ x.vars h2.2
  have l2 := listT_size ⟨#[113, 117, 101, 117, 101]⟩ x.queues h3.2
  have e1 : (⟨#[109, 111, 110, 105, 116, 111, 114, 32]⟩ : ByteArray).size = 8 := rfl
  have e2 : (⟨#[118, 97, 114]⟩ : ByteArray).size = 3 := rfl
  have e3 : (⟨#[113, 117, 101, 117, 101]⟩ : ByteArray).size = 5 := rfl
  have e4 : (⟨#[32, 59, 32]⟩ : ByteArray).size = 3 := rfl
  rw [e2] at l1
  rw [e3] at l2
  unfold monH
  simp only [size_app]
  rw [e1, e4]
  omega
end Go.Proofs.YtdfahpachbhglaaGreatDoor

namespace Go.Proofs.YtdfahpachbhglaaGreatDoor
open Go.RowKit

set_option maxRecDepth 100000 in
set_option maxHeartbeats 2000000 in
theorem specShow_wrong (nv mv pv : Value) (x : Pg) (w : World) (hN : NdsAt w nv x.nodes) (hM : MosAt w mv x.mons) (hP : PrsAt w pv x.pros) (hL : PgLen x) (hin : NsIn x.nodes) (hmi : ∀ m ∈ x.mons, MoIn m) (hpi : ∀ p ∈ x.pros, PrIn p) (hkl : (allKids x.nodes).length ≤ 1048576) (hbl : (bodiesL x.mons x.pros).length ≤ 1048576) (hw : specProgB x = false) :
    Calls Tryz.prog 5 #[.agg #[nv, mv, pv]] w fun e w' => e = .returned (.tuple #[.string (showP x).1, .bool (showP x).2]) ∧ Below w.heap.size w w' := by
  have hb1 : Below w.heap.size w (w.alloc (.cells #[nv, mv, pv] 34)) := (Below.refl _ _).alloc (Nat.le_refl _) _
  have CP := hide (specProgramOk_any nv mv pv x _ (hN.stays hb1) (hM.stays hb1) (hP.stays hb1) hL hin hmi hpi hkl hbl)
  rw [hw] at CP
  have HE : Hid (showP x = (ByteArray.empty, false)) := by show _ = _; unfold showP; rw [if_neg (by rw [hw]; decide)]
  have HB1 := hide hb1
  obtain ⟨na, nc, rfl⟩ : ∃ a c, nv = .slice a x.nodes.length c := by obtain ⟨a, c, e, _⟩ := hN; exact ⟨a, c, e⟩
  obtain ⟨ma, mc, rfl⟩ : ∃ a c, mv = .slice a x.mons.length c := by obtain ⟨a, c, e, _⟩ := hM; exact ⟨a, c, e⟩
  obtain ⟨pa, pc, rfl⟩ : ∃ a c, pv = .slice a x.pros.length c := by obtain ⟨a, c, e, _⟩ := hP; exact ⟨a, c, e⟩
  rw [HE.out]
  clear hb1 hN hM hP hL hin hmi hpi hkl hbl hw HE
  go_enter Tryz.func5, Tryz.ntmps5
  go_wp2_with fail
  refine (unhide CP).mono ?_
  rintro e w1 ⟨rfl, hb⟩
  go_wp2
  go_ret2
  exact ⟨rfl, HB1.out.trans (hb.mono HB1.out.size)⟩
end Go.Proofs.YtdfahpachbhglaaGreatDoor

namespace Go.Proofs.YtdfahpachbhglaaGreatDoor
open Go.RowKit

/-- What stays while a program is shown. -/
structure PB (w : World) (nv mv pv : Value) (x : Pg) (z : World) : Prop where
  bel : Below w.heap.size w z
  box : Boxed w.heap.size z nv mv pv
  nds : NdsAt z nv x.nodes
  mos : MosAt z mv x.mons
  prs : PrsAt z pv x.pros
theorem PB.stays {w z z' : World} {nv mv pv : Value} {x : Pg} (h : PB w nv mv pv x z) (hb : Below z.heap.size z z') : PB w nv mv pv x z' :=
  ⟨h.bel.trans (hb.mono h.bel.size), h.box.stays hb, h.nds.stays hb, h.mos.stays hb, h.prs.stays hb⟩
theorem PB.drew {w z : World} {nv mv pv : Value} {x : Pg} (h : PB w nv mv pv x z) : PB w nv mv pv x z.drew := h.stays (Below.refl _ _).drew
/-- What is asked of a program that is shown. -/
structure Fit (x : Pg) (T : Nat → ByteArray) : Prop where
  mons : ∀ m ∈ x.mons, monB m = true ∧ ∀ e ∈ m.ents, (T e.body.toNat).size ≤ 60000000000000
  pros : ∀ p ∈ x.pros, procB p = true ∧ (T p.body.toNat).size ≤ 60000000000000
  ml : x.mons.length ≤ 3
  pl : x.pros.length ≤ 4
theorem monT_size {T : Nat → ByteArray} {s : ByteArray} {m : Mo} (h : monB m = true) (hT : ∀ e ∈ m.ents, (T e.body.toNat).size ≤ 60000000000000) : (monT T s m).size ≤ s.size + 200000000000000 := by
  have h1 := monH_size (s := s) h
  have hh := h
  simp only [monB, Bool.and_eq_true, inZ, decide_eq_true_eq, List.all_eq_true] at hh
  have h2 := ents_size (T := T) (m := 60000000000000) m.ents (monH s m) (fun e he => ⟨hh.2 e he, hT e he⟩)
  have h3 : m.ents.length ≤ 3 := by have := hh.1.2; omega
  have h4 : m.ents.length * (60000000000000 + 40) ≤ 3 * (60000000000000 + 40) := Nat.mul_le_mul_right _ h3
  have e1 : (⟨#[101, 110, 100, 32, 59, 32]⟩ : ByteArray).size = 6 := rfl
  unfold monT
  rw [size_app, e1]
  omega
theorem mons_size {T : Nat → ByteArray} : ∀ (ms : List Mo) (s : ByteArray), (∀ m ∈ ms, monB m = true ∧ ∀ e ∈ m.ents, (T e.body.toNat).size ≤ 60000000000000) → (ms.foldl (monT T) s).size ≤ s.size + ms.length * 200000000000000
  | [], s, _ => by simp
  | m :: ms, s, h => by
    have h1 := h m List.mem_cons_self
    have h2 := monT_size (s := s) h1.1 h1.2
    have h3 := mons_size ms (monT T s m) (fun x hx => h x (List.mem_cons_of_mem _ hx))
    rw [List.foldl_cons, List.length_cons, Nat.succ_mul]
    omega
theorem fold_take {α : Type} (f : ByteArray → α → ByteArray) (s : ByteArray) {xs : List α} {i : Nat} (h : i < xs.length) : (xs.take (i + 1)).foldl f s = f ((xs.take i).foldl f s) xs[i] := by
  rw [List.take_succ_eq_append_getElem h, List.foldl_append]
  rfl
/-- The loop over monitors. -/
def MonRel (w : World) (nv mv pv : Value) (x : Pg) (T : Nat → ByteArray) (n : Nat) (sv iv : Value) (wr : World) : Prop :=
  ∃ i : Nat, i ≤ n ∧ sv = .string ((x.mons.take i).foldl (monT T) ByteArray.empty) ∧ iv = .int .i64 i ∧ Hid (PB w nv mv pv x wr)
/-- The loop over a monitor's entries. -/
def EntRel (w : World) (nv mv pv : Value) (x : Pg) (T : Nat → ByteArray) (s0 : ByteArray) (es : List En) (n g : Nat) (cs : Array Value) (sv iv : Value) (wr : World) : Prop :=
  ∃ i : Nat, i ≤ n ∧ sv = .string ((es.take i).foldl (entT T) s0) ∧ iv = .int .i64 i ∧ Hid (PB w nv mv pv x wr) ∧ Hid (Box wr g cs 45)
end Go.Proofs.YtdfahpachbhglaaGreatDoor

/-
  Walks: a tree, a right program, by the program.
-/
import Derived.Test.YtdfahpachbhglaaGreatDoorTreeV
import Derived.Test.YtdfahpachbhglaaGreatDoorImpO
import Derived.Test.YtdfahpachbhglaaGreatDoorImpQ
import Derived.Test.YtdfahpachbhglaaGreatDoorImpS
import Derived.Test.YtdfahpachbhglaaGreatDoorPureN
import Derived.Test.YtdfahpachbhglaaGreatDoorLawN
import Derived.Test.YtdfahpachbhglaaGreatDoorAidCard
namespace Go.Proofs.YtdfahpachbhglaaGreatDoor
open Go.RowKit

theorem deepOf_none (nv mv pv : Value) (ns : List Nd) (k : Int) (w : World) (hN : NdsAt w nv ns) (hk : inZ 0 ((ns.length : Int) - 1) k = false) :
    Calls Tryz.prog 59 #[.agg #[nv, mv, pv], .int .i64 k] w fun e w' => e = .returned (.int .i64 0) ∧ Below w.heap.size w w' := by
  have hb1 : Below w.heap.size w (w.alloc (.cells #[nv, mv, pv] 34)) := (Below.refl _ _).alloc (Nat.le_refl _) _
  have CH := fun w h => hide (has_any nv mv pv ns k w h)
  rw [hk] at CH
  have HN := hide (hN.stays hb1)
  have HB := hide hb1
  clear hb1 hk
  obtain ⟨ao, c, rfl, _⟩ := hN
  go_enter Tryz.func59, Tryz.ntmps59
  go_wp2_with (go_at_call 79; refine (unhide (CH _ HN.out)).mono ?_; rintro e w1 ⟨rfl, hb2⟩; have HB := hide (HB.out.trans (hb2.mono HB.out.size)); clear hb2)
  go_ret
  exact ⟨rfl, HB.out⟩

def allNodes (ns : List Nd) : Bool := (List.range ns.length).all fun (k : Nat) => nodeAt ns (k : Int)
def treeB (ns : List Nd) : Bool := allNodes ns && decide (0 < (deepsTo ns ns.length).getD (ns.length - 1) 0)
def TrR (W : World) (ns : List Nd) (iv : Value) (wr : World) : Prop :=
  ∃ i : Nat, i ≤ ns.length ∧ iv = .int .i64 i ∧ Hid (Below W.heap.size W wr) ∧ Hid (∀ j, j < i → nodeAt ns ((j : Nat) : Int) = true)
theorem nodeAt_in {ns : List Nd} {j : Nat} (hj : j < ns.length) : nodeAt ns (j : Int) = nodeB ns[j] (kinds ns j) := by
  rw [nodeAt, inZ_yes.2 (by omega), Int.toNat_natCast, getD_at hj]
  rfl

set_option maxRecDepth 100000 in
set_option maxHeartbeats 2000000 in
theorem isTree_any (nv mv pv : Value) (ns : List Nd) (w : World) (hN : NdsAt w nv ns) (hR : NdsRoom w nv ns.length) (hl : ns.length ≤ 1048576) (hin : NsIn ns) :
    Calls Tryz.prog 38 #[.agg #[nv, mv, pv]] w fun e w' => e = .returned (.bool (treeB ns)) ∧ Below w.heap.size w w' := by
  have hb1 : Below w.heap.size w (w.alloc (.cells #[nv, mv, pv] 34)) := (Below.refl _ _).alloc (Nat.le_refl _) _
  have CN := fun k w h1 h2 => hide (implNodeOk_any nv mv pv ns k w h1 h2 hl hin)
  have CD := fun k w h1 h2 hk (hall : ∀ j : Nat, j < ns.length → nodeAt ns (j : Int) = true) => hide (deepOf_in nv mv pv ns k w h1 h2 hk hl (fun x hx => (hin x hx).1) (fun j hj => (nodeAt_in hj).symm.trans (hall j hj)))
  have C0 := fun k w h hk => hide (deepOf_none nv mv pv ns k w h hk)
  have HN := hide (hN.stays hb1)
  have HR := hide (hR.stays hb1)
  have HX := hide (Boxed.made w nv mv pv 34)
  have HB := hide hb1
  clear hb1 hR hin
  obtain ⟨ao, c, rfl, _⟩ := hN
  obtain ⟨n, en⟩ : ∃ n, ns.length = n := ⟨_, rfl⟩
  have EN := hide en
  simp only [en] at HN HR HX HB hl CN C0 CD ⊢
  clear en
  go_enter Tryz.func38, Tryz.ntmps38
  go_wp2
  obtain ⟨W1, hW⟩ : ∃ W1, w.alloc (.cells #[.slice ao n c, mv, pv] 34) = W1 := ⟨_, rfl⟩
  rw [hW] at HN HR HX HB ⊢
  clear hW
  go_loopw [7] (TrR W1 ns) (fun iv _ => n - (intOf iv).toNat)
  case atStart => exact ⟨0, by omega, rfl, Below.refl _ _, fun j hj => absurd hj (Nat.not_lt_zero j)⟩
  case round =>
    obtain ⟨i, hi, rfl, HB2, HA⟩ := hrel
    rw [EN.out] at hi
    obtain ⟨c0, c1, c2, _⟩ := HX.out.stays HB2.out
    by_cases hlt : i < n
    · have hlt' : (i : Int) < (n : Int) := by omega
      have C := CN (i : Int) wr (HN.out.stays HB2.out) (HR.out.stays HB2.out)
      clear CN CD C0
      cases hnb : nodeAt ns (i : Int) with
      | true =>
        rw [hnb] at C
        have HT := hide hnb
        clear hnb
        go_wp2_with (go_at_call 58; refine (unhide C).mono ?_; rintro e w3 ⟨rfl, hb3⟩; have HB3 := hide (HB2.out.trans (hb3.mono HB2.out.size)); clear hb3)
        go_roundw
        case rel => exact ⟨i + 1, by rw [EN.out]; omega, by go_num, HB3.out, fun j hj => by
          rcases Nat.lt_succ_iff_lt_or_eq.1 hj with h | h
          · exact HA.out j h
          · subst h; exact HT.out⟩
        case measure => simp [intOf]; omega
      | false =>
        rw [hnb] at C
        have HF : Hid (treeB ns = false) := by
          have : allNodes ns = false := by
            rw [allNodes, List.all_eq_false]
            exact ⟨i, by rw [List.mem_range, EN.out]; exact hlt, by rw [hnb]; simp⟩
          show _ = _
          rw [treeB, this]
          rfl
        clear hnb
        go_wp2_with (go_at_call 58; refine (unhide C).mono ?_; rintro e w3 ⟨rfl, hb3⟩; have HB3 := hide (HB2.out.trans (hb3.mono HB2.out.size)); clear hb3)
        go_ret
        exact ⟨by rw [HF.out]; rfl, HB.out.trans (HB3.out.mono HB.out.size)⟩
    · have hlt' : ¬ (i : Int) < (n : Int) := by omega
      have HAN : Hid (allNodes ns = true) := by
        show _ = _
        rw [allNodes, List.all_eq_true]
        intro j hj
        rw [List.mem_range, EN.out] at hj
        exact HA.out j (by omega)
      have HU : Hid (treeB ns = decide (0 < (deepsTo ns n).getD (n - 1) 0)) := by show _ = _; rw [treeB, HAN.out, EN.out]; rfl
      rcases n with _ | m
      · have C := C0 (-1) wr (HN.out.stays HB2.out) (by rfl)
        clear CN CD C0
        have HF : Hid (treeB ns = false) := by show _ = _; rw [HU.out]; rfl
        go_wp2_with (go_at_call 59; refine (unhide C).mono ?_; rintro e w3 ⟨rfl, hb3⟩; have HB3 := hide (HB2.out.trans (hb3.mono HB2.out.size)); clear hb3)
        go_ret
        exact ⟨by rw [HF.out]; rfl, HB.out.trans (HB3.out.mono HB.out.size)⟩
      · have C := CD m wr (HN.out.stays HB2.out) (HR.out.stays HB2.out) (by omega) (fun j hj => HA.out j (by omega))
        clear CN CD C0
        rw [Nat.add_sub_cancel] at HU
        obtain ⟨z, ez⟩ : ∃ z, (deepsTo ns (m + 1)).getD m 0 = z := ⟨_, rfl⟩
        rw [ez] at C HU
        clear ez
        go_wp2_with (go_at_call 59; refine (unhide C).mono ?_; rintro e w3 ⟨rfl, hb3⟩; have HB3 := hide (HB2.out.trans (hb3.mono HB2.out.size)); clear hb3)
        go_ret
        exact ⟨by rw [HU.out]; rfl, HB.out.trans (HB3.out.mono HB.out.size)⟩

/-- Is a program right, by the program? -/
def implProgB (x : Pg) : Bool := fitsB x.nodes.length x.mons x.pros && (treeB x.nodes && ((namesL x.mons x.pros).all nameB && ((bodiesL x.mons x.pros).all (standQ x.nodes 3) && onceB x.nodes.length (bodiesL x.mons x.pros ++ allKids x.nodes))))

structure PBx (w : World) (nv mv pv : Value) (x : Pg) (z : World) : Prop where
  b0 : Box z w.heap.size #[nv, mv, pv] 34
  bel : Below w.heap.size w z
  nodes : NdsAt z nv x.nodes
  mons : MosAt z mv x.mons
  pros : PrsAt z pv x.pros
  room : NdsRoom z nv x.nodes.length
theorem PBx.stays {w : World} {nv mv pv : Value} {x : Pg} {z z' : World} (h : PBx w nv mv pv x z) (hb : Below z.heap.size z z') : PBx w nv mv pv x z' :=
  ⟨h.b0.stays hb, h.bel.trans (hb.mono h.bel.size), h.nodes.stays hb, h.mons.stays hb, h.pros.stays hb, h.room.stays hb⟩

theorem names_few {n : Nat} {ms : List Mo} {ps : List Pr} (h : fitsB n ms ps = true) : (namesL ms ps).length ≤ 4194304 := by
  simp only [fitsB, Bool.and_eq_true, decide_eq_true_eq, List.all_eq_true] at h
  obtain ⟨⟨⟨_, h1⟩, _, h2⟩, h3, h4⟩ := h
  have e1 : ∀ (l : List Mo), (∀ x ∈ l, fitM x = true) → (l.flatMap monNames).length ≤ l.length * 12 := fun l => by
    induction l with
    | nil => intro _; simp
    | cons x l ih =>
      intro hl
      have i1 := ih (fun y hy => hl y (by simp [hy]))
      have i2 := hl x (by simp)
      simp only [fitM, Bool.and_eq_true, decide_eq_true_eq] at i2
      have i3 : (x.ents.flatMap entNames).length = x.ents.length * 2 := by
        generalize x.ents = es
        induction es with
        | nil => rfl
        | cons e es ih2 => rw [List.flatMap_cons, List.length_append, ih2]; simp [entNames]; omega
      rw [List.flatMap_cons, List.length_append, List.length_cons]
      have i4 : (monNames x).length = 1 + x.vars.length + x.queues.length + x.ents.length * 2 := by
        rw [← i3]; simp [monNames]; omega
      omega
  have e2 : ∀ (l : List Pr), (∀ x ∈ l, fitP x = true) → (l.flatMap proNames).length ≤ l.length * 7 := fun l => by
    induction l with
    | nil => intro _; simp
    | cons x l ih =>
      intro hl
      have i1 := ih (fun y hy => hl y (by simp [hy]))
      have i2 := hl x (by simp)
      simp only [fitP, Bool.and_eq_true, decide_eq_true_eq] at i2
      rw [List.flatMap_cons, List.length_append, List.length_cons]
      have i4 : (proNames x).length = 1 + x.uses.length + x.vars.length := by
        simp [proNames]; omega
      omega
  have a1 := e1 ms h3
  have a2 := e2 ps h4
  rw [namesL, List.length_append]
  omega
theorem tree_kids {ns : List Nd} (h : treeB ns = true) : ∀ x ∈ ns, ∀ y ∈ x.kids, 0 ≤ y ∧ y < (ns.length : Int) := by
  rw [treeB, Bool.and_eq_true] at h
  intro x hx y hy
  obtain ⟨k, hk, rfl⟩ := List.getElem_of_mem hx
  obtain ⟨i, hi, rfl⟩ := List.getElem_of_mem hy
  have h1 := List.all_eq_true.1 h.1 k (List.mem_range.2 hk)
  rw [nodeAt_in hk] at h1
  have := nodeB_ahead hk h1 i hi
  omega

set_option maxRecDepth 100000 in
set_option maxHeartbeats 4000000 in
theorem implProgramOk_any (nv mv pv : Value) (x : Pg) (w : World) (hN : NdsAt w nv x.nodes) (hM : MosAt w mv x.mons) (hP : PrsAt w pv x.pros) (hR : NdsRoom w nv x.nodes.length) (hL : PgLen x) (hin : NsIn x.nodes) (hmi : ∀ m ∈ x.mons, MoIn m) (hpi : ∀ p ∈ x.pros, PrIn p) (hkl : (allKids x.nodes).length ≤ 1048576) (hbl : (bodiesL x.mons x.pros).length ≤ 1048576) :
    Calls Tryz.prog 19 #[.agg #[nv, mv, pv]] w fun e w' => e = .returned (.bool (implProgB x)) ∧ Below w.heap.size w w' := by
  have hb1 : Below w.heap.size w (w.alloc (.cells #[nv, mv, pv] 34)) := (Below.refl _ _).alloc (Nat.le_refl _) _
  have D : Hid (PBx w nv mv pv x (w.alloc (.cells #[nv, mv, pv] 34))) := ⟨Box.made w _ _, hb1, hN.stays hb1, hM.stays hb1, hP.stays hb1, hR.stays hb1⟩
  have C1 := fun z (h : PBx w nv mv pv x z) => hide (fitsP_any nv mv pv x.nodes x.mons x.pros z h.nodes h.mons h.pros)
  have C2 := fun z (h : PBx w nv mv pv x z) => hide (isTree_any nv mv pv x.nodes z h.nodes h.room hL.nl hin)
  obtain ⟨s, es⟩ : ∃ s, implProgB x = s := ⟨_, rfl⟩
  rw [es]
  unfold implProgB at es
  clear hb1 hN hM hP hR
  cases h1 : fitsB x.nodes.length x.mons x.pros with
  | false =>
    have e : s = false := by rw [← es, h1]; rfl
    subst e
    rw [h1] at C1
    clear es h1 C2
    go_enter Tryz.func19, Tryz.ntmps19
    go_wp2_with (go_at_call 37; refine (unhide (C1 _ D.out)).mono ?_; rintro e w2 ⟨rfl, hb2⟩; (
  have D := hide (D.out.stays hb2); have p0 := Lib.cell_of_heap D.out.b0 0; have p1 := Lib.cell_of_heap D.out.b0 1; have p2 := Lib.cell_of_heap D.out.b0 2; simp at p0 p1 p2; clear hb2))
    go_ret
    exact ⟨rfl, D.out.bel⟩
  | true =>
    have C3 := fun z (h : PBx w nv mv pv x z) => hide (namesOk_any nv mv pv x.mons x.pros z h.mons h.pros hL.ml hL.pl hmi hpi (names_few h1))
    rw [h1] at C1
    cases h2 : treeB x.nodes with
    | false =>
      have e : s = false := by rw [← es, h1, h2]; rfl
      subst e
      rw [h2] at C2
      clear es h1 h2 C3
      go_enter Tryz.func19, Tryz.ntmps19
      go_wp2_with (first | (go_at_call 37; refine (unhide (C1 _ D.out)).mono ?_; rintro e w2 ⟨rfl, hb2⟩; (
  have D := hide (D.out.stays hb2); have p0 := Lib.cell_of_heap D.out.b0 0; have p1 := Lib.cell_of_heap D.out.b0 1; have p2 := Lib.cell_of_heap D.out.b0 2; simp at p0 p1 p2; clear hb2)) | (go_at_call 38; refine (unhide (C2 _ D.out)).mono ?_; rintro e w2 ⟨rfl, hb2⟩; (
  have D := hide (D.out.stays hb2); have p0 := Lib.cell_of_heap D.out.b0 0; have p1 := Lib.cell_of_heap D.out.b0 1; have p2 := Lib.cell_of_heap D.out.b0 2; simp at p0 p1 p2; clear hb2)))
      go_ret
      exact ⟨rfl, D.out.bel⟩
    | true =>
      have C4 := fun z (h : PBx w nv mv pv x z) => hide (ownedOnce_any nv mv pv x.nodes x.mons x.pros z h.nodes h.mons h.pros hL.nl hbl hL.ml hL.pl (fun m hm => (hL.mon m hm).2.2) hkl hL.kids (tree_kids h2))
      rw [h2] at C2
      rw [h1, h2, Bool.true_and, Bool.true_and] at es
      clear h1 h2
      obtain ⟨s3, e3⟩ : ∃ s3, (namesL x.mons x.pros).all nameB = s3 := ⟨_, rfl⟩
      obtain ⟨s4, e4⟩ : ∃ s4, ((bodiesL x.mons x.pros).all (standQ x.nodes 3) && onceB x.nodes.length (bodiesL x.mons x.pros ++ allKids x.nodes)) = s4 := ⟨_, rfl⟩
      simp only [e3] at C3
      simp only [e4] at C4
      rw [e3, e4] at es
      clear e3 e4
      subst es
      cases s3 with
      | false =>
        clear C4
        go_enter Tryz.func19, Tryz.ntmps19
        go_wp2_with (first | (go_at_call 37; refine (unhide (C1 _ D.out)).mono ?_; rintro e w2 ⟨rfl, hb2⟩; (
  have D := hide (D.out.stays hb2); have p0 := Lib.cell_of_heap D.out.b0 0; have p1 := Lib.cell_of_heap D.out.b0 1; have p2 := Lib.cell_of_heap D.out.b0 2; simp at p0 p1 p2; clear hb2)) | (go_at_call 38; refine (unhide (C2 _ D.out)).mono ?_; rintro e w2 ⟨rfl, hb2⟩; (
  have D := hide (D.out.stays hb2); have p0 := Lib.cell_of_heap D.out.b0 0; have p1 := Lib.cell_of_heap D.out.b0 1; have p2 := Lib.cell_of_heap D.out.b0 2; simp at p0 p1 p2; clear hb2)) | (go_at_call 39; refine (unhide (C3 _ D.out)).mono ?_; rintro e w2 ⟨rfl, hb2⟩; (
  have D := hide (D.out.stays hb2); have p0 := Lib.cell_of_heap D.out.b0 0; have p1 := Lib.cell_of_heap D.out.b0 1; have p2 := Lib.cell_of_heap D.out.b0 2; simp at p0 p1 p2; clear hb2)))
        go_ret
        exact ⟨rfl, D.out.bel⟩
      | true =>
        go_enter Tryz.func19, Tryz.ntmps19
        (go_wp2_with (first
    | (go_at_call 37; refine (unhide (C1 _ D.out)).mono ?_; rintro e w2 ⟨rfl, hb2⟩; (
  have D := hide (D.out.stays hb2); have p0 := Lib.cell_of_heap D.out.b0 0; have p1 := Lib.cell_of_heap D.out.b0 1; have p2 := Lib.cell_of_heap D.out.b0 2; simp at p0 p1 p2; clear hb2))
    | (go_at_call 38; refine (unhide (C2 _ D.out)).mono ?_; rintro e w2 ⟨rfl, hb2⟩; (
  have D := hide (D.out.stays hb2); have p0 := Lib.cell_of_heap D.out.b0 0; have p1 := Lib.cell_of_heap D.out.b0 1; have p2 := Lib.cell_of_heap D.out.b0 2; simp at p0 p1 p2; clear hb2))
    | (go_at_call 39; refine (unhide (C3 _ D.out)).mono ?_; rintro e w2 ⟨rfl, hb2⟩; (
  have D := hide (D.out.stays hb2); have p0 := Lib.cell_of_heap D.out.b0 0; have p1 := Lib.cell_of_heap D.out.b0 1; have p2 := Lib.cell_of_heap D.out.b0 2; simp at p0 p1 p2; clear hb2))
    | (go_at_call 40; refine (unhide (C4 _ D.out)).mono ?_; rintro e w2 ⟨rfl, hb2⟩; (
  have D := hide (D.out.stays hb2); have p0 := Lib.cell_of_heap D.out.b0 0; have p1 := Lib.cell_of_heap D.out.b0 1; have p2 := Lib.cell_of_heap D.out.b0 2; simp at p0 p1 p2; clear hb2))))
        go_ret
        exact ⟨rfl, D.out.bel⟩
end Go.Proofs.YtdfahpachbhglaaGreatDoor

namespace Go.Proofs.YtdfahpachbhglaaGreatDoor
open Go.RowKit

theorem body_stand (ns : List Nd) (b : Int) : bodyQ ns b = standQ ns 3 b := by
  rw [bodyQ, standQ, role_block]
  rfl
theorem all_flat {α β : Type} (f : α → List β) (q : β → Bool) : ∀ (xs : List α), (xs.flatMap f).all q = xs.all (fun x => (f x).all q)
  | [] => rfl
  | x :: xs => by rw [List.flatMap_cons, List.all_append, List.all_cons, all_flat f q xs]
theorem all_and {α : Type} (p q : α → Bool) : ∀ (xs : List α), xs.all (fun x => p x && q x) = (xs.all p && xs.all q)
  | [] => rfl
  | x :: xs => by
    rw [List.all_cons, List.all_cons, List.all_cons, all_and p q xs]
    cases p x <;> cases q x <;> cases xs.all p <;> rfl
theorem all_eq {α : Type} {p q : α → Bool} (h : ∀ x, p x = q x) (xs : List α) : xs.all p = xs.all q := by
  have : p = q := funext h
  rw [this]
theorem namesB_eq (xs : List ByteArray) (k : Nat) : namesB xs (k : Int) = (xs.all nameB && decide (xs.length ≤ k)) := by
  rw [namesB]
  congr 1
  rw [Bool.eq_iff_iff, decide_eq_true_iff, decide_eq_true_iff]
  omega
theorem monB_eq (x : Mo) : monB x = (fitM x && (monNames x).all nameB) := by
  have h1 := namesB_eq x.vars 3
  have h2 := namesB_eq x.queues 2
  have h3 : inZ 1 3 (x.ents.length : Int) = (decide (1 ≤ x.ents.length) && decide (x.ents.length ≤ 3)) := by
    rw [Bool.eq_iff_iff, inZ_yes, Bool.and_eq_true, decide_eq_true_iff, decide_eq_true_iff]
    omega
  have h4 : (x.ents.flatMap entNames).all nameB = x.ents.all entB := by
    rw [all_flat]
    exact all_eq (fun e => by simp [entNames, entB]) _
  have h5 : (monNames x).all nameB = (nameB x.name && x.vars.all nameB && x.queues.all nameB && x.ents.all entB) := by
    rw [monNames, List.all_append, List.all_append, List.all_append, h4]
    simp
  rw [monB, fitM, h5, h3]
  have h1' : namesB x.vars 3 = (x.vars.all nameB && decide (x.vars.length ≤ 3)) := h1
  have h2' : namesB x.queues 2 = (x.queues.all nameB && decide (x.queues.length ≤ 2)) := h2
  rw [h1', h2']
  cases nameB x.name <;> cases x.vars.all nameB <;> cases x.queues.all nameB <;> cases x.ents.all entB <;> cases decide (x.vars.length ≤ 3) <;> cases decide (x.queues.length ≤ 2) <;> cases decide (1 ≤ x.ents.length) <;> cases decide (x.ents.length ≤ 3) <;> rfl
theorem procB_eq (x : Pr) : procB x = (fitP x && (proNames x).all nameB) := by
  have h1' : namesB x.uses 3 = (x.uses.all nameB && decide (x.uses.length ≤ 3)) := namesB_eq x.uses 3
  have h2' : namesB x.vars 3 = (x.vars.all nameB && decide (x.vars.length ≤ 3)) := namesB_eq x.vars 3
  have h5 : (proNames x).all nameB = (nameB x.name && x.uses.all nameB && x.vars.all nameB) := by
    rw [proNames, List.all_append, List.all_append]
    simp
  rw [procB, fitP, h5, h1', h2']
  cases nameB x.name <;> cases x.uses.all nameB <;> cases x.vars.all nameB <;> cases decide (x.uses.length ≤ 3) <;> cases decide (x.vars.length ≤ 3) <;> rfl
theorem lists_eq (n : Nat) (ms : List Mo) (ps : List Pr) : (decide (n ≤ 160) && listsB ms ps) = (fitsB n ms ps && (namesL ms ps).all nameB) := by
  have h1 : ms.all monB = (ms.all fitM && (ms.flatMap monNames).all nameB) := by
    rw [all_flat, ← all_and]
    exact all_eq monB_eq ms
  have h2 : ps.all procB = (ps.all fitP && (ps.flatMap proNames).all nameB) := by
    rw [all_flat, ← all_and]
    exact all_eq procB_eq ps
  have h3 : inZ 1 4 (ps.length : Int) = (decide (1 ≤ ps.length) && decide (ps.length ≤ 4)) := by
    rw [Bool.eq_iff_iff, inZ_yes, Bool.and_eq_true, decide_eq_true_iff, decide_eq_true_iff]
    omega
  have h4 : decide ((ms.length : Int) ≤ 3) = decide (ms.length ≤ 3) := by
    rw [Bool.eq_iff_iff, decide_eq_true_iff, decide_eq_true_iff]
    omega
  rw [listsB, fitsB, namesL, List.all_append, h1, h2, h3, h4]
  cases decide (n ≤ 160) <;> cases decide (ms.length ≤ 3) <;> cases decide (1 ≤ ps.length) <;> cases decide (ps.length ≤ 4) <;> cases ms.all fitM <;> cases ps.all fitP <;> cases (ms.flatMap monNames).all nameB <;> cases (ps.flatMap proNames).all nameB <;> rfl
theorem tree_eq {ns : List Nd} (hn : 0 < ns.length) : (deepsTo ns ns.length).all deepQ = treeB ns := by
  have hlast : (deepsTo ns ns.length).getD (ns.length - 1) 0 = (deepsTo ns (ns.length - 1 + 1)).getD (ns.length - 1) 0 := by rw [Nat.sub_add_cancel hn]
  rw [Bool.eq_iff_iff, treeB, Bool.and_eq_true, decide_eq_true_iff]
  constructor
  · intro h
    refine ⟨List.all_eq_true.2 fun k hk => ?_, ?_⟩
    · rw [List.mem_range] at hk
      rw [nodeAt_in hk]
      exact deep_right h hk
    · have hk : ns.length - 1 < (deepsTo ns ns.length).length := by rw [deepsTo_len]; omega
      have h1 := List.all_eq_true.1 h _ (List.getElem_mem hk)
      have e : (deepsTo ns ns.length).getD (ns.length - 1) 0 = (deepsTo ns ns.length)[ns.length - 1] := by
        simp [List.getD_eq_getElem?_getD, List.getElem?_eq_getElem hk]
      rw [e]
      have := inZ_yes.1 h1
      omega
  · intro ⟨_, h2⟩
    rw [List.all_eq_true]
    intro d hd
    obtain ⟨i, hi, rfl⟩ := List.getElem_of_mem hd
    have hi2 : i < ns.length := by rw [deepsTo_len] at hi; exact hi
    have e : (deepsTo ns ns.length).getD i 0 = (deepsTo ns ns.length)[i] := by
      simp [List.getD_eq_getElem?_getD, List.getElem?_eq_getElem hi]
    have hb := deepsTo_in ns ns.length i
    rw [e] at hb
    refine inZ_yes.2 ⟨?_, hb.2⟩
    rcases Int.lt_or_le 0 (deepsTo ns ns.length)[i] with h | h
    · omega
    · have hz : (deepsTo ns (i + 1)).getD i 0 = 0 := by
        have e1 := deepsTo_at ns ns.length hi2
        have e2 := deepsTo_at ns (i + 1) (Nat.lt_succ_self i)
        rw [e2, ← e1, e]
        omega
      have := deep_zero hz (ns.length - 1) (by omega)
      rw [hlast, this] at h2
      omega
theorem prog_eq (x : Pg) : specProgB x = implProgB x := by
  have hb : (bodiesL x.mons x.pros).all (bodyQ x.nodes) = (bodiesL x.mons x.pros).all (standQ x.nodes 3) := all_eq (body_stand x.nodes) _
  rw [specProgB, implProgB, lists_eq, hb]
  rcases Nat.eq_zero_or_pos x.nodes.length with h0 | hpos
  · have ht : treeB x.nodes = false := by
      rw [treeB, h0]
      simp [deepsTo]
    cases hf : fitsB x.nodes.length x.mons x.pros with
    | false => simp
    | true =>
      have hp : 1 ≤ x.pros.length := by
        simp only [fitsB, Bool.and_eq_true, decide_eq_true_eq] at hf
        exact hf.1.2.1
      have hs : (bodiesL x.mons x.pros).all (standQ x.nodes 3) = false := by
        rw [List.all_eq_false]
        have hm : x.pros[0].body ∈ bodiesL x.mons x.pros := by
          rw [bodiesL, List.mem_append]
          exact .inr (List.mem_map.2 ⟨x.pros[0], List.getElem_mem (by omega), rfl⟩)
        refine ⟨_, hm, ?_⟩
        have : inZ 0 ((x.nodes.length : Int) - 1) x.pros[0].body = false := inZ_no.2 (by omega)
        rw [standQ, this]
        simp
      rw [ht, hs]
      simp
  · rw [tree_eq hpos]
    cases fitsB x.nodes.length x.mons x.pros <;> cases (namesL x.mons x.pros).all nameB <;> cases treeB x.nodes <;> simp
end Go.Proofs.YtdfahpachbhglaaGreatDoor

namespace Go.Proofs.YtdfahpachbhglaaGreatDoor
open Go.RowKit

theorem sum_le {α : Type} (f g : α → Nat) (h : ∀ x, f x ≤ g x) : ∀ (xs : List α), (xs.map f).sum ≤ (xs.map g).sum
  | [] => Nat.le_refl _
  | x :: xs => by
    rw [List.map_cons, List.map_cons, List.sum_cons, List.sum_cons]
    have := sum_le f g h xs
    have := h x
    omega
theorem len_flat {α β : Type} (f : α → List β) : ∀ (xs : List α), (xs.flatMap f).length = (xs.map fun x => (f x).length).sum
  | [] => rfl
  | x :: xs => by rw [List.flatMap_cons, List.length_append, List.map_cons, List.sum_cons, len_flat f xs]
theorem szPg_kids {x : Pg} (h : szPg x ≤ 1048576) : (allKids x.nodes).length ≤ 1048576 := by
  have h1 : szPg x = szNds x.nodes + szMos x.mons + szPrs x.pros := rfl
  have h2 : szNds x.nodes = x.nodes.length + (x.nodes.map szNd).sum := rfl
  have h3 := sum_le (fun y : Nd => y.kids.length) szNd (fun y => by show y.kids.length ≤ y.name.size + y.more.size + y.into.size + y.kids.length; omega) x.nodes
  rw [allKids, len_flat]
  omega
theorem szPg_bodies {x : Pg} (h : szPg x ≤ 1048576) : (bodiesL x.mons x.pros).length ≤ 1048576 := by
  have h1 : szPg x = szNds x.nodes + szMos x.mons + szPrs x.pros := rfl
  have h2 : szMos x.mons = x.mons.length + (x.mons.map szMo).sum := rfl
  have h4 : szPrs x.pros = x.pros.length + (x.pros.map szPr).sum := rfl
  have h3 := sum_le (fun y : Mo => (y.ents.map En.body).length) szMo (fun y => by
    have e : szMo y = y.name.size + szStrs y.vars + szStrs y.queues + szEns y.ents := rfl
    have e2 : szEns y.ents = y.ents.length + (y.ents.map szEn).sum := rfl
    show (y.ents.map En.body).length ≤ szMo y
    rw [List.length_map]
    omega) x.mons
  rw [bodiesL, List.length_append, List.length_map, len_flat]
  omega

end Go.Proofs.YtdfahpachbhglaaGreatDoor

namespace Go.Proofs.YtdfahpachbhglaaGreatDoor

/-- The decimal figures of a number; of 0 none. -/
def decR (n : Nat) : List Int := if n = 0 then [] else decR (n / 10) ++ [((48 + n % 10 : Nat) : Int)]

theorem decR_zero : decR 0 = [] := by rw [decR, if_pos rfl]
theorem decR_pos {n : Nat} (h : 0 < n) : decR n = decR (n / 10) ++ [((48 + n % 10 : Nat) : Int)] := by rw [decR, if_neg (by omega)]
theorem decR_len : ∀ (k n : Nat), n < 10 ^ k → (decR n).length ≤ k
  | 0, n, h => by
    have : n = 0 := by simp at h; exact h
    rw [this, decR_zero]; simp
  | k + 1, n, h => by
    rcases Nat.eq_zero_or_pos n with h0 | h0
    · rw [h0, decR_zero]; simp
    · rw [decR_pos h0]
      have := decR_len k (n / 10) (by
        rw [Nat.div_lt_iff_lt_mul (by omega)]
        have e : 10 ^ (k + 1) = 10 ^ k * 10 := Nat.pow_succ ..
        omega)
      simp; omega
theorem decR_byte (n : Nat) : ∀ c ∈ decR n, 0 ≤ c ∧ c < 256 := by
  induction n using Nat.strongRecOn with
  | _ n ih =>
    intro c hc
    rcases Nat.eq_zero_or_pos n with h0 | h0
    · rw [h0, decR_zero] at hc; cases hc
    · rw [decR_pos h0] at hc
      rcases List.mem_append.1 hc with hc | hc
      · exact ih (n / 10) (by omega) c hc
      · simp at hc; omega

/-- The decimal figures of an int. -/
def decI (n : Int) : List Int := if n = 0 then [48] else if n < 0 then 45 :: decR n.natAbs else decR n.natAbs
theorem decI_zero : decI 0 = [48] := rfl
theorem decI_neg {n : Int} (h : n < 0) : decI n = 45 :: decR n.natAbs := by rw [decI, if_neg (by omega), if_pos h]
theorem decI_pos {n : Int} (h : 0 < n) : decI n = decR n.natAbs := by rw [decI, if_neg (by omega), if_neg (by omega)]
theorem decI_byte (n : Int) : ∀ c ∈ decI n, 0 ≤ c ∧ c < 256 := by
  intro c hc
  unfold decI at hc
  split at hc
  · simp at hc; omega
  · split at hc
    · rcases List.mem_cons.1 hc with rfl | hc
      · omega
      · exact decR_byte _ c hc
    · exact decR_byte _ c hc

/-- A number's figures do not begin with 0. -/
theorem decR_head (n : Nat) : ∀ r, decR n ≠ 48 :: r := by
  induction n using Nat.strongRecOn with
  | _ n ih =>
    intro r h
    rcases Nat.eq_zero_or_pos n with h0 | h0
    · rw [h0, decR_zero] at h; cases h
    · rw [decR_pos h0] at h
      rcases Nat.eq_zero_or_pos (n / 10) with h1 | h1
      · rw [h1, decR_zero, List.nil_append] at h
        simp only [List.cons.injEq] at h
        omega
      · cases e : decR (n / 10) with
        | nil =>
          have := decR_pos h1
          rw [e] at this
          simp at this
        | cons a t =>
          rw [e, List.cons_append] at h
          simp only [List.cons.injEq] at h
          exact ih (n / 10) (by omega) t (by rw [e, h.1])

/-- What figures are worth. -/
def val10 (ds : List Int) : Int := ds.foldl (fun n d => 10 * n + d) 0
theorem val10_snoc (ds : List Int) (d : Int) : val10 (ds ++ [d]) = 10 * val10 ds + d := by simp [val10]
theorem val10_in : ∀ (k : Nat) (ds : List Int), ds.length = k → (∀ d ∈ ds, 0 ≤ d ∧ d < 10) → 0 ≤ val10 ds ∧ val10 ds < 10 ^ k
  | 0, ds, h, _ => by
    have : ds = [] := List.length_eq_zero_iff.1 h
    subst this; simp [val10]
  | k + 1, ds, h, hd => by
    rcases List.eq_nil_or_concat ds with e | ⟨es, d, e⟩
    · subst e; simp at h
    · rw [List.concat_eq_append] at e
      subst e
      have ih := val10_in k es (by simp at h; exact h) (fun x hx => hd x (by simp [hx]))
      have h1 := hd d (by simp)
      rw [val10_snoc]
      have e : (10 : Int) ^ (k + 1) = 10 ^ k * 10 := Int.pow_succ ..
      omega

/-- Figures that do not begin with 0 are the figures of what they are worth. -/
theorem decR_val : ∀ (k : Nat) (ds : List Int), ds.length = k → (∀ d ∈ ds, 0 ≤ d ∧ d < 10) → (∀ r, ds ≠ 0 :: r) → decR (val10 ds).natAbs = ds.map (48 + ·) ∧ (0 < k → 0 < val10 ds)
  | 0, ds, h, _, _ => by
    have : ds = [] := List.length_eq_zero_iff.1 h
    subst this
    exact ⟨by show decR 0 = []; exact decR_zero, by omega⟩
  | k + 1, ds, h, hd, hz => by
    rcases List.eq_nil_or_concat ds with e | ⟨es, d, e⟩
    · subst e; simp at h
    · rw [List.concat_eq_append] at e
      subst e
      have hl : es.length = k := by simp at h; exact h
      have he : ∀ x ∈ es, 0 ≤ x ∧ x < 10 := fun x hx => hd x (by simp [hx])
      have h1 := hd d (by simp)
      have hb := val10_in k es hl he
      have ih := decR_val k es hl he (fun r hr => hz (r ++ [d]) (by rw [hr]; rfl))
      rw [val10_snoc]
      have hpos : 0 < 10 * val10 es + d := by
        cases k with
        | zero =>
          have : es = [] := List.length_eq_zero_iff.1 hl
          subst this
          have : d ≠ 0 := fun e0 => hz [] (by rw [e0]; rfl)
          have e0 : val10 [] = 0 := rfl
          omega
        | succ k => have := ih.2 (by omega); omega
      refine ⟨?_, fun _ => hpos⟩
      rw [decR_pos (by omega)]
      have e1 : (10 * val10 es + d).natAbs / 10 = (val10 es).natAbs := by omega
      have e2 : (10 * val10 es + d).natAbs % 10 = d.toNat := by omega
      rw [e1, e2, ih.1, List.map_append]
      congr 1
      simp; omega

theorem decI_val {ds : List Int} (hd : ∀ d ∈ ds, 0 ≤ d ∧ d < 10) (h0 : ds ≠ []) (hz : ds = [0] ∨ ∀ r, ds ≠ 0 :: r) : decI (val10 ds) = ds.map (48 + ·) := by
  rcases hz with rfl | hz
  · rfl
  · have h := decR_val ds.length ds rfl hd hz
    have hl : 0 < ds.length := List.length_pos_iff.2 h0
    rw [decI_pos (h.2 hl), h.1]
/-- Needless noughts: never the figures of a number. -/
theorem decI_needless {n d : Int} {r : List Int} : decI n ≠ 48 :: d :: r := by
  intro h
  unfold decI at h
  split at h
  · simp at h
  · split at h
    · simp at h
    · exact decR_head _ _ h
theorem decI_ne_nil (n : Int) : decI n ≠ [] := by
  unfold decI
  split
  · simp
  · split
    · simp
    · rw [decR_pos (by omega)]
      simp
end Go.Proofs.YtdfahpachbhglaaGreatDoor

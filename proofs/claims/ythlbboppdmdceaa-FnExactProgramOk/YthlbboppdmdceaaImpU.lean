/-
  Walks: a tree, a right program, by the program.
-/
import Derived.Test.YthlbboppdmdceaaImpT
import Derived.Test.YthlbboppdmdceaaImpO
import Derived.Test.YthlbboppdmdceaaImpQ
import Derived.Test.YthlbboppdmdceaaImpR
import Derived.Test.YthlbboppdmdceaaImpS
namespace Go.Proofs.Ythlbboppdmdceaa
open Go.RowKit

theorem deepOf_none (nv mv pv : Value) (ns : List Nd) (k : Int) (w : World) (hN : NdsAt w nv ns) (hk : inZ 0 ((ns.length : Int) - 1) k = false) :
    Calls Try.prog 60 #[.agg #[nv, mv, pv], .int .i64 k] w fun e w' => e = .returned (.int .i64 0) ∧ Below w.heap.size w w' := by
  have hb1 : Below w.heap.size w (w.alloc (.cells #[nv, mv, pv] 33)) := (Below.refl _ _).alloc (Nat.le_refl _) _
  have CH := fun w h => hide (has_any nv mv pv ns k w h)
  rw [hk] at CH
  have HN := hide (hN.stays hb1)
  have HB := hide hb1
  clear hb1 hk
  obtain ⟨ao, c, rfl, _⟩ := hN
  go_enter Try.func60, Try.ntmps60
  go_wp2_with (go_at_call 23; refine (unhide (CH _ HN.out)).mono ?_; rintro e w1 ⟨rfl, hb2⟩; have HB := hide (HB.out.trans (hb2.mono HB.out.size)); clear hb2)
  go_ret
  exact ⟨rfl, HB.out⟩

def allNodes (ns : List Nd) : Bool := (List.range ns.length).all fun (k : Nat) => nodeAt ns (k : Int)
def treeB (ns : List Nd) : Bool := allNodes ns && decide (0 < (deepsTo ns ns.length).getD (ns.length - 1) 0)
def TrR (W : World) (ns : List Nd) (iv : Value) (wr : World) : Prop :=
  ∃ i : Nat, i ≤ ns.length ∧ iv = .int .i64 i ∧ Hid (Below W.heap.size W wr) ∧ Hid (∀ j, j < i → nodeAt ns ((j : Nat) : Int) = true)
theorem nodeAt_in {ns : List Nd} {j : Nat} (hj : j < ns.length) : nodeAt ns (j : Int) = nodeB ns[j] (kinds ns j) := by
  rw [nodeAt, inZ_yes.2 (by omega), Int.toNat_natCast, getD_at hj]
  rfl

set_option maxRecDepth 100000 in
set_option maxHeartbeats 2000000 in
theorem isTree_any (nv mv pv : Value) (ns : List Nd) (w : World) (hN : NdsAt w nv ns) (hR : NdsRoom w nv ns.length) (hl : ns.length ≤ 1048576) (hin : NsIn ns) :
    Calls Try.prog 36 #[.agg #[nv, mv, pv]] w fun e w' => e = .returned (.bool (treeB ns)) ∧ Below w.heap.size w w' := by
  have hb1 : Below w.heap.size w (w.alloc (.cells #[nv, mv, pv] 33)) := (Below.refl _ _).alloc (Nat.le_refl _) _
  have CN := fun k w h1 h2 => hide (implNodeOk_any nv mv pv ns k w h1 h2 hl hin)
  have CD := fun k w h1 h2 hk (hall : ∀ j : Nat, j < ns.length → nodeAt ns (j : Int) = true) => hide (deepOf_in nv mv pv ns k w h1 h2 hk hl (fun x hx => (hin x hx).1) (fun j hj => (nodeAt_in hj).symm.trans (hall j hj)))
  have C0 := fun k w h hk => hide (deepOf_none nv mv pv ns k w h hk)
  have HN := hide (hN.stays hb1)
  have HR := hide (hR.stays hb1)
  have HX := hide (Boxed.made w nv mv pv 33)
  have HB := hide hb1
  clear hb1 hR hin
  obtain ⟨ao, c, rfl, _⟩ := hN
  obtain ⟨n, en⟩ : ∃ n, ns.length = n := ⟨_, rfl⟩
  have EN := hide en
  simp only [en] at HN HR HX HB hl CN C0 CD ⊢
  clear en
  go_enter Try.func36, Try.ntmps36
  go_wp2
  obtain ⟨W1, hW⟩ : ∃ W1, w.alloc (.cells #[.slice ao n c, mv, pv] 33) = W1 := ⟨_, rfl⟩
  rw [hW] at HN HR HX HB ⊢
  clear hW
  go_loopw [7] (TrR W1 ns) (fun iv _ => n - (intOf iv).toNat)
  case atStart => exact ⟨0, by omega, rfl, Below.refl _ _, fun j hj => absurd hj (Nat.not_lt_zero j)⟩
  case round =>
    obtain ⟨i, hi, rfl, HB2, HA⟩ := hrel
    rw [EN.out] at hi
    obtain ⟨c0, c1, c2, _⟩ := HX.out.stays HB2.out
    by_cases hlt : i < n
    · have hlt' : (i : Int) < (n : Int) := by omega
      have C := CN (i : Int) wr (HN.out.stays HB2.out) (HR.out.stays HB2.out)
      clear CN CD C0
      cases hnb : nodeAt ns (i : Int) with
      | true =>
        rw [hnb] at C
        have HT := hide hnb
        clear hnb
        go_wp2_with (go_at_call 8; refine (unhide C).mono ?_; rintro e w3 ⟨rfl, hb3⟩; have HB3 := hide (HB2.out.trans (hb3.mono HB2.out.size)); clear hb3)
        go_roundw
        case rel => exact ⟨i + 1, by rw [EN.out]; omega, by go_num, HB3.out, fun j hj => by
          rcases Nat.lt_succ_iff_lt_or_eq.1 hj with h | h
          · exact HA.out j h
          · subst h; exact HT.out⟩
        case measure => simp [intOf]; omega
      | false =>
        rw [hnb] at C
        have HF : Hid (treeB ns = false) := by
          have : allNodes ns = false := by
            rw [allNodes, List.all_eq_false]
            exact ⟨i, by rw [List.mem_range, EN.out]; exact hlt, by rw [hnb]; simp⟩
          show _ = _
          rw [treeB, this]
          rfl
        clear hnb
        go_wp2_with (go_at_call 8; refine (unhide C).mono ?_; rintro e w3 ⟨rfl, hb3⟩; have HB3 := hide (HB2.out.trans (hb3.mono HB2.out.size)); clear hb3)
        go_ret
        exact ⟨by rw [HF.out]; rfl, HB.out.trans (HB3.out.mono HB.out.size)⟩
    · have hlt' : ¬ (i : Int) < (n : Int) := by omega
      have HAN : Hid (allNodes ns = true) := by
        show _ = _
        rw [allNodes, List.all_eq_true]
        intro j hj
        rw [List.mem_range, EN.out] at hj
        exact HA.out j (by omega)
      have HU : Hid (treeB ns = decide (0 < (deepsTo ns n).getD (n - 1) 0)) := by show _ = _; rw [treeB, HAN.out, EN.out]; rfl
      rcases n with _ | m
      · have C := C0 (-1) wr (HN.out.stays HB2.out) (by rfl)
        clear CN CD C0
        have HF : Hid (treeB ns = false) := by show _ = _; rw [HU.out]; rfl
        go_wp2_with (go_at_call 60; refine (unhide C).mono ?_; rintro e w3 ⟨rfl, hb3⟩; have HB3 := hide (HB2.out.trans (hb3.mono HB2.out.size)); clear hb3)
        go_ret
        exact ⟨by rw [HF.out]; rfl, HB.out.trans (HB3.out.mono HB.out.size)⟩
      · have C := CD m wr (HN.out.stays HB2.out) (HR.out.stays HB2.out) (by omega) (fun j hj => HA.out j (by omega))
        clear CN CD C0
        rw [Nat.add_sub_cancel] at HU
        obtain ⟨z, ez⟩ : ∃ z, (deepsTo ns (m + 1)).getD m 0 = z := ⟨_, rfl⟩
        rw [ez] at C HU
        clear ez
        go_wp2_with (go_at_call 60; refine (unhide C).mono ?_; rintro e w3 ⟨rfl, hb3⟩; have HB3 := hide (HB2.out.trans (hb3.mono HB2.out.size)); clear hb3)
        go_ret
        exact ⟨by rw [HU.out]; rfl, HB.out.trans (HB3.out.mono HB.out.size)⟩

/-- Is a program right, by the program? -/
def implProgB (x : Pg) : Bool := fitsB x.nodes.length x.mons x.pros && (treeB x.nodes && ((namesL x.mons x.pros).all nameB && ((bodiesL x.mons x.pros).all (standQ x.nodes 3) && onceB x.nodes.length (bodiesL x.mons x.pros ++ allKids x.nodes))))

structure PBx (w : World) (nv mv pv : Value) (x : Pg) (z : World) : Prop where
  b0 : Box z w.heap.size #[nv, mv, pv] 33
  bel : Below w.heap.size w z
  nodes : NdsAt z nv x.nodes
  mons : MosAt z mv x.mons
  pros : PrsAt z pv x.pros
  room : NdsRoom z nv x.nodes.length
theorem PBx.stays {w : World} {nv mv pv : Value} {x : Pg} {z z' : World} (h : PBx w nv mv pv x z) (hb : Below z.heap.size z z') : PBx w nv mv pv x z' :=
  ⟨h.b0.stays hb, h.bel.trans (hb.mono h.bel.size), h.nodes.stays hb, h.mons.stays hb, h.pros.stays hb, h.room.stays hb⟩

theorem names_few {n : Nat} {ms : List Mo} {ps : List Pr} (h : fitsB n ms ps = true) : (namesL ms ps).length ≤ 4194304 := by
  simp only [fitsB, Bool.and_eq_true, decide_eq_true_eq, List.all_eq_true] at h
  obtain ⟨⟨⟨_, h1⟩, _, h2⟩, h3, h4⟩ := h
  have e1 : ∀ (l : List Mo), (∀ x ∈ l, fitM x = true) → (l.flatMap monNames).length ≤ l.length * 12 := fun l => by
    induction l with
    | nil => intro _; simp
    | cons x l ih =>
      intro hl
      have i1 := ih (fun y hy => hl y (by simp [hy]))
      have i2 := hl x (by simp)
      simp only [fitM, Bool.and_eq_true, decide_eq_true_eq] at i2
      have i3 : (x.ents.flatMap entNames).length = x.ents.length * 2 := by
        generalize x.ents = es
        induction es with
        | nil => rfl
        | cons e es ih2 => rw [List.flatMap_cons, List.length_append, ih2]; simp [entNames]; omega
      rw [List.flatMap_cons, List.length_append, List.length_cons]
      have i4 : (monNames x).length = 1 + x.vars.length + x.queues.length + x.ents.length * 2 := by
        rw [← i3]; simp [monNames]; omega
      omega
  have e2 : ∀ (l : List Pr), (∀ x ∈ l, fitP x = true) → (l.flatMap proNames).length ≤ l.length * 7 := fun l => by
    induction l with
    | nil => intro _; simp
    | cons x l ih =>
      intro hl
      have i1 := ih (fun y hy => hl y (by simp [hy]))
      have i2 := hl x (by simp)
      simp only [fitP, Bool.and_eq_true, decide_eq_true_eq] at i2
      rw [List.flatMap_cons, List.length_append, List.length_cons]
      have i4 : (proNames x).length = 1 + x.uses.length + x.vars.length := by
        simp [proNames]; omega
      omega
  have a1 := e1 ms h3
  have a2 := e2 ps h4
  rw [namesL, List.length_append]
  omega
theorem tree_kids {ns : List Nd} (h : treeB ns = true) : ∀ x ∈ ns, ∀ y ∈ x.kids, 0 ≤ y ∧ y < (ns.length : Int) := by
  rw [treeB, Bool.and_eq_true] at h
  intro x hx y hy
  obtain ⟨k, hk, rfl⟩ := List.getElem_of_mem hx
  obtain ⟨i, hi, rfl⟩ := List.getElem_of_mem hy
  have h1 := List.all_eq_true.1 h.1 k (List.mem_range.2 hk)
  rw [nodeAt_in hk] at h1
  have := nodeB_ahead hk h1 i hi
  omega

set_option maxRecDepth 100000 in
set_option maxHeartbeats 4000000 in
theorem implProgramOk_any (nv mv pv : Value) (x : Pg) (w : World) (hN : NdsAt w nv x.nodes) (hM : MosAt w mv x.mons) (hP : PrsAt w pv x.pros) (hR : NdsRoom w nv x.nodes.length) (hL : PgLen x) (hin : NsIn x.nodes) (hmi : ∀ m ∈ x.mons, MoIn m) (hpi : ∀ p ∈ x.pros, PrIn p) (hkl : (allKids x.nodes).length ≤ 1048576) (hbl : (bodiesL x.mons x.pros).length ≤ 1048576) :
    Calls Try.prog 11 #[.agg #[nv, mv, pv]] w fun e w' => e = .returned (.bool (implProgB x)) ∧ Below w.heap.size w w' := by
  have hb1 : Below w.heap.size w (w.alloc (.cells #[nv, mv, pv] 33)) := (Below.refl _ _).alloc (Nat.le_refl _) _
  have D : Hid (PBx w nv mv pv x (w.alloc (.cells #[nv, mv, pv] 33))) := ⟨Box.made w _ _, hb1, hN.stays hb1, hM.stays hb1, hP.stays hb1, hR.stays hb1⟩
  have C1 := fun z (h : PBx w nv mv pv x z) => hide (fits_any nv mv pv x.nodes x.mons x.pros z h.nodes h.mons h.pros)
  have C2 := fun z (h : PBx w nv mv pv x z) => hide (isTree_any nv mv pv x.nodes z h.nodes h.room hL.nl hin)
  obtain ⟨s, es⟩ : ∃ s, implProgB x = s := ⟨_, rfl⟩
  rw [es]
  unfold implProgB at es
  clear hb1 hN hM hP hR
  cases h1 : fitsB x.nodes.length x.mons x.pros with
  | false =>
    have e : s = false := by rw [← es, h1]; rfl
    subst e
    rw [h1] at C1
    clear es h1 C2
    go_enter Try.func11, Try.ntmps11
    go_wp2_with (go_at_call 35; refine (unhide (C1 _ D.out)).mono ?_; rintro e w2 ⟨rfl, hb2⟩; (
  have D := hide (D.out.stays hb2); have p0 := Lib.cell_of_heap D.out.b0 0; have p1 := Lib.cell_of_heap D.out.b0 1; have p2 := Lib.cell_of_heap D.out.b0 2; simp at p0 p1 p2; clear hb2))
    go_ret
    exact ⟨rfl, D.out.bel⟩
  | true =>
    have C3 := fun z (h : PBx w nv mv pv x z) => hide (namesOk_any nv mv pv x.mons x.pros z h.mons h.pros hL.ml hL.pl hmi hpi (names_few h1))
    rw [h1] at C1
    cases h2 : treeB x.nodes with
    | false =>
      have e : s = false := by rw [← es, h1, h2]; rfl
      subst e
      rw [h2] at C2
      clear es h1 h2 C3
      go_enter Try.func11, Try.ntmps11
      go_wp2_with (first | (go_at_call 35; refine (unhide (C1 _ D.out)).mono ?_; rintro e w2 ⟨rfl, hb2⟩; (
  have D := hide (D.out.stays hb2); have p0 := Lib.cell_of_heap D.out.b0 0; have p1 := Lib.cell_of_heap D.out.b0 1; have p2 := Lib.cell_of_heap D.out.b0 2; simp at p0 p1 p2; clear hb2)) | (go_at_call 36; refine (unhide (C2 _ D.out)).mono ?_; rintro e w2 ⟨rfl, hb2⟩; (
  have D := hide (D.out.stays hb2); have p0 := Lib.cell_of_heap D.out.b0 0; have p1 := Lib.cell_of_heap D.out.b0 1; have p2 := Lib.cell_of_heap D.out.b0 2; simp at p0 p1 p2; clear hb2)))
      go_ret
      exact ⟨rfl, D.out.bel⟩
    | true =>
      have C4 := fun z (h : PBx w nv mv pv x z) => hide (ownedOnce_any nv mv pv x.nodes x.mons x.pros z h.nodes h.mons h.pros hL.nl hbl hL.ml hL.pl (fun m hm => (hL.mon m hm).2.2) hkl hL.kids (tree_kids h2))
      rw [h2] at C2
      rw [h1, h2, Bool.true_and, Bool.true_and] at es
      clear h1 h2
      obtain ⟨s3, e3⟩ : ∃ s3, (namesL x.mons x.pros).all nameB = s3 := ⟨_, rfl⟩
      obtain ⟨s4, e4⟩ : ∃ s4, ((bodiesL x.mons x.pros).all (standQ x.nodes 3) && onceB x.nodes.length (bodiesL x.mons x.pros ++ allKids x.nodes)) = s4 := ⟨_, rfl⟩
      simp only [e3] at C3
      simp only [e4] at C4
      rw [e3, e4] at es
      clear e3 e4
      subst es
      cases s3 with
      | false =>
        clear C4
        go_enter Try.func11, Try.ntmps11
        go_wp2_with (first | (go_at_call 35; refine (unhide (C1 _ D.out)).mono ?_; rintro e w2 ⟨rfl, hb2⟩; (
  have D := hide (D.out.stays hb2); have p0 := Lib.cell_of_heap D.out.b0 0; have p1 := Lib.cell_of_heap D.out.b0 1; have p2 := Lib.cell_of_heap D.out.b0 2; simp at p0 p1 p2; clear hb2)) | (go_at_call 36; refine (unhide (C2 _ D.out)).mono ?_; rintro e w2 ⟨rfl, hb2⟩; (
  have D := hide (D.out.stays hb2); have p0 := Lib.cell_of_heap D.out.b0 0; have p1 := Lib.cell_of_heap D.out.b0 1; have p2 := Lib.cell_of_heap D.out.b0 2; simp at p0 p1 p2; clear hb2)) | (go_at_call 37; refine (unhide (C3 _ D.out)).mono ?_; rintro e w2 ⟨rfl, hb2⟩; (
  have D := hide (D.out.stays hb2); have p0 := Lib.cell_of_heap D.out.b0 0; have p1 := Lib.cell_of_heap D.out.b0 1; have p2 := Lib.cell_of_heap D.out.b0 2; simp at p0 p1 p2; clear hb2)))
        go_ret
        exact ⟨rfl, D.out.bel⟩
      | true =>
        go_enter Try.func11, Try.ntmps11
        (go_wp2_with (first
    | (go_at_call 35; refine (unhide (C1 _ D.out)).mono ?_; rintro e w2 ⟨rfl, hb2⟩; (
  have D := hide (D.out.stays hb2); have p0 := Lib.cell_of_heap D.out.b0 0; have p1 := Lib.cell_of_heap D.out.b0 1; have p2 := Lib.cell_of_heap D.out.b0 2; simp at p0 p1 p2; clear hb2))
    | (go_at_call 36; refine (unhide (C2 _ D.out)).mono ?_; rintro e w2 ⟨rfl, hb2⟩; (
  have D := hide (D.out.stays hb2); have p0 := Lib.cell_of_heap D.out.b0 0; have p1 := Lib.cell_of_heap D.out.b0 1; have p2 := Lib.cell_of_heap D.out.b0 2; simp at p0 p1 p2; clear hb2))
    | (go_at_call 37; refine (unhide (C3 _ D.out)).mono ?_; rintro e w2 ⟨rfl, hb2⟩; (
  have D := hide (D.out.stays hb2); have p0 := Lib.cell_of_heap D.out.b0 0; have p1 := Lib.cell_of_heap D.out.b0 1; have p2 := Lib.cell_of_heap D.out.b0 2; simp at p0 p1 p2; clear hb2))
    | (go_at_call 38; refine (unhide (C4 _ D.out)).mono ?_; rintro e w2 ⟨rfl, hb2⟩; (
  have D := hide (D.out.stays hb2); have p0 := Lib.cell_of_heap D.out.b0 0; have p1 := Lib.cell_of_heap D.out.b0 1; have p2 := Lib.cell_of_heap D.out.b0 2; simp at p0 p1 p2; clear hb2))))
        go_ret
        exact ⟨rfl, D.out.bel⟩
end Go.Proofs.Ythlbboppdmdceaa

/-
  Walks of the program: a name less in a set; a monitor is judged.
-/
import Derived.Test.YtpdpmnkonkpheaaGreatImvI
import Derived.Deep.RegionWith
import Derived.Deep.CutRange
import Derived.Test.YtpdpmnkonkpheaaGreatTreeL
namespace Go.Proofs.YtpdpmnkonkpheaaGreat
open Go.RowKit Go.Maps
open Go.WideMaps (keyOf_string_mk)

set_option maxRecDepth 100000 in
set_option maxHeartbeats 1000000 in
theorem setLeave_any (b n : Nat) (ks : List ByteArray) (s : ByteArray) (w : World) (h : SetAt w b n ks) (hs : s.size ≤ 1048576) :
    Calls Tryz.prog 73 #[.map (some b), .string s] w fun e w' => e = .returned (.tuple #[]) ∧ SetAt w' b n (ks.filter fun x => !decide (x = s)) ∧ w.grownBy w' (some b) := by
  obtain ⟨D, h1, h2⟩ := h
  have H2 := hide (fun t => has_less h2 s t)
  clear h2
  go_enter Tryz.func73, Tryz.ntmps73
  go_wp2_with (at_delete; refine wpList_delete_own _ rfl _ _ 84 9 rfl 135 lawN Tryz.underlying84 _ b n D rfl h1 _ _ rfl (keyN hs) ?_; intro w1 hown1 hturn1)
  go_end0
  exact ⟨rfl, ⟨_, hown1, H2.out⟩, hturn1.grown⟩

/-- While a monitor is judged, its sets not yet made. -/
structure JmY (w0 w : World) (nv mv pv : Value) (x : Mo) (vv qv ev : Value) (g n : Nat) (cs : List Int) (z : World) : Prop where
  bp : Box z w.heap.size #[nv, mv, pv] 33
  bm : Box z (w.heap.size + 1) #[.string x.name, vv, qv, ev] 76
  vars : StrsAt z vv x.vars
  queues : StrsAt z qv x.queues
  cods : CodesAt z g n cs
  but : But g w z
  old : Below w0.heap.size w0 z
theorem JmY.stays {w0 w : World} {nv mv pv : Value} {x : Mo} {vv qv ev : Value} {g n : Nat} {cs : List Int} {z z' : World} (h : JmY w0 w nv mv pv x vv qv ev g n cs z) (hb : Below z.heap.size z z') : JmY w0 w nv mv pv x vv qv ev g n cs z' :=
  ⟨h.bp.stays hb, h.bm.stays hb, h.vars.stays hb, h.queues.stays hb, h.cods.stays hb, h.but.trans (But.of hb (Nat.le_of_lt h.cods.lt)), h.old.trans (hb.mono h.old.size)⟩
theorem boxOf {w0 w : World} {nv mv pv : Value} {x : Mo} {vv qv ev : Value} {g n : Nat} {cs : List Int} {z : World} {c : Array Value} {t : TypeId} (_ : JmY w0 w nv mv pv x vv qv ev g n cs z) : Box (z.alloc (.cells c t)) z.heap.size c t := Box.made z c t
theorem Box.frozen {w : World} {b : Nat} {cs : Array Value} {t : TypeId} (h : Box w b cs t) (j : Nat) : w.frozen? ⟨b, j, none⟩ = false := by
  have h2 : w.heap[b]? = some (.cells cs t (0, 0)) := h
  simp [World.frozen?, h2]
theorem Box.past {w : World} {b : Nat} {cs : Array Value} {t : TypeId} (h : Box w b cs t) (o : Obj) (j : Nat) : (w.alloc o).cell? ⟨b, j, none⟩ = cs[j]? := Lib.cell_of_heap (h.stays ((Below.refl _ _).alloc (Nat.le_refl _) o)) j
/-- .. and made. -/
structure JmZ (w0 w : World) (nv mv pv : Value) (x : Mo) (vv qv ev : Value) (g n : Nat) (gs bv bq nb : Nat) (ks : List ByteArray) (cs : List Int) (z : World) : Prop where
  bp : Box z w.heap.size #[nv, mv, pv] 33
  bm : Box z (w.heap.size + 1) #[.string x.name, vv, qv, ev] 76
  bs : Box z gs #[.bool true, .map (some bv), .map (some bq), .map none] 87
  sv : SetAt z bv nb ks
  sq : SetAt z bq x.queues.length x.queues
  ne : bv ≠ bq
  lo : w.heap.size ≤ bv
  cods : CodesAt z g n cs
  but : But g w z
  old : Below w0.heap.size w0 z
theorem JmZ.stays {w0 w : World} {nv mv pv : Value} {x : Mo} {vv qv ev : Value} {g n gs bv bq nb : Nat} {ks : List ByteArray} {cs : List Int} {z z' : World} (h : JmZ w0 w nv mv pv x vv qv ev g n gs bv bq nb ks cs z) (hb : Below z.heap.size z z') : JmZ w0 w nv mv pv x vv qv ev g n gs bv bq nb ks cs z' :=
  ⟨h.bp.stays hb, h.bm.stays hb, h.bs.stays hb, h.sv.all hb, h.sq.all hb, h.ne, h.lo, h.cods.stays hb, h.but.trans (But.of hb (Nat.le_of_lt h.cods.lt)), h.old.trans (hb.mono h.old.size)⟩
theorem SetAt.all2 {w w' : World} {b n : Nat} {ks : List ByteArray} {o : Obj} (h : SetAt w b n ks) (hb : Below (w.alloc o).heap.size (w.alloc o) w') : SetAt w' b n ks := (h.all ((Below.refl _ _).alloc (Nat.le_refl _) o)).all hb
theorem szA (w : World) (o : Obj) : (w.alloc o).heap.size = w.heap.size + 1 := by simp
theorem szD (w : World) : w.drew.heap.size = w.heap.size := rfl
theorem Box.nomap {w : World} {b : Nat} {cs : Array Value} {t : TypeId} (h : Box w b cs t) {es : Array MapEntry} {cl : Nat} : w.heap[b]? ≠ some (.map es cl) := by
  intro q
  have h2 : w.heap[b]? = some (.cells cs t (0, 0)) := h
  rw [h2] at q
  cases q
theorem SetAt.isMap {w : World} {b n : Nat} {ks : List ByteArray} (h : SetAt w b n ks) : ∃ es cl, w.heap[b]? = some (.map es cl) := by
  obtain ⟨D, ⟨es, cl, q1, _⟩, _⟩ := h
  exact ⟨es, cl, q1⟩
theorem JmZ.mk1 {w0 w : World} {nv mv pv : Value} {x : Mo} {vv qv ev : Value} {g n bv bq nb : Nat} {ks : List ByteArray} {cs : List Int} {z : World} (h : JmY w0 w nv mv pv x vv qv ev g n cs z) (sv : SetAt z bv nb ks) (sq : SetAt z bq x.queues.length x.queues) (ne : bv ≠ bq) (lo : w.heap.size ≤ bv) : JmZ w0 w nv mv pv x vv qv ev g n z.heap.size bv bq nb ks cs (z.alloc (.cells #[.bool true, .map (some bv), .map (some bq), .map none] 87)) := by
  have hb : Below z.heap.size z (z.alloc (.cells #[.bool true, .map (some bv), .map (some bq), .map none] 87)) := (Below.refl _ _).alloc (Nat.le_refl _) _
  have h2 := h.stays hb
  exact ⟨h2.bp, h2.bm, Box.made _ _ _, sv.all hb, sq.all hb, ne, lo, h2.cods, h2.but, h2.old⟩
theorem Box.set4 {z : World} {b : Nat} {a0 a1 a2 a3 b0 b1 b2 b3 : Value} {t : TypeId} (h : Box z b #[a0, a1, a2, a3] t) : Box ((((z.setCell ⟨b, 0, none⟩ b0).setCell ⟨b, 1, none⟩ b1).setCell ⟨b, 2, none⟩ b2).setCell ⟨b, 3, none⟩ b3) b #[b0, b1, b2, b3] t := by
  exact (((h.set 0 b0).set 1 b1).set 2 b2).set 3 b3
theorem JmZ.mk2 {w0 w : World} {nv mv pv : Value} {x : Mo} {vv qv ev : Value} {g n gs bv bq nb : Nat} {ks : List ByteArray} {cs : List Int} {z : World} {a0 a1 a2 a3 : Value} (h : JmY w0 w nv mv pv x vv qv ev g n cs z) (ba : Box z gs #[a0, a1, a2, a3] 87) (sv : SetAt z bv nb ks) (sq : SetAt z bq x.queues.length x.queues) (ne : bv ≠ bq) (lo : w.heap.size ≤ bv) (hg : w.heap.size + 1 < gs) (hgw : g < w.heap.size) (hw0 : w0.heap.size ≤ w.heap.size) : JmZ w0 w nv mv pv x vv qv ev g n gs bv bq nb ks cs ((((z.setCell ⟨gs, 0, none⟩ (.bool true)).setCell ⟨gs, 1, none⟩ (.map (some bv))).setCell ⟨gs, 2, none⟩ (.map (some bq))).setCell ⟨gs, 3, none⟩ (.map none)) := by
  have hb : But gs z ((((z.setCell ⟨gs, 0, none⟩ (.bool true)).setCell ⟨gs, 1, none⟩ (.map (some bv))).setCell ⟨gs, 2, none⟩ (.map (some bq))).setCell ⟨gs, 3, none⟩ (.map none)) := ((((But.refl gs z).setCell _ _).setCell _ _).setCell _ _).setCell _ _
  have hset : ∀ {b m : Nat} {k : List ByteArray}, SetAt z b m k → SetAt ((((z.setCell ⟨gs, 0, none⟩ (.bool true)).setCell ⟨gs, 1, none⟩ (.map (some bv))).setCell ⟨gs, 2, none⟩ (.map (some bq))).setCell ⟨gs, 3, none⟩ (.map none)) b m k := fun {b m k} hs => by
    have hl := hs.lt
    obtain ⟨es, cl, q⟩ := hs.isMap
    have hne : b ≠ gs := fun e => ba.nomap (e ▸ q)
    obtain ⟨D, ⟨es, cl, q1, q2⟩, h2⟩ := hs
    exact ⟨D, ⟨es, cl, (hb.block b hl hne).trans q1, q2⟩, h2⟩
  refine ⟨h.bp.but hb (by omega), h.bm.but hb (by omega), ba.set4, hset sv, hset sq, ne, lo, ⟨?_, h.cods.len⟩, ⟨h.but.bel.trans (hb.bel.mono (by omega)), fun k hk hkg => (hb.block k (Nat.lt_of_lt_of_le hk h.but.bel.size) (by omega)).trans (h.but.block k hk hkg)⟩, h.old.trans (hb.bel.mono (by omega))⟩
  have hlt := h.cods.own.lt
  obtain ⟨h1, h2⟩ := h.cods.own
  refine ⟨h1, ?_⟩
  rcases h2 with h2 | ⟨q, cap, cur, e, hb1, hq, r⟩
  · exact .inl h2
  · refine .inr ⟨q, cap, cur, e, hb1, (hb.block q ?_ ?_).trans hq, r⟩
    · exact (hlt q (by rw [e]; rfl)).2
    · have := hlt q (by rw [e]; rfl)
      have e2 : g = q := by injection e with e; injection e with e; injection e
      omega
theorem Box.grown {w w' : World} {b c : Nat} {cs : Array Value} {t : TypeId} {n : Nat} {ks : List ByteArray} (h : Box w b cs t) (hs : SetAt w c n ks) (hg : w.grownBy w' (some c)) : Box w' b cs t := by
  obtain ⟨es, cl, q⟩ := hs.isMap
  have hne : b ≠ c := fun e => h.nomap (e ▸ q)
  exact (hg.block b h.lt (fun e => hne (Option.some.inj e))).trans h
/-- A name more or less in the set of vars. -/
theorem JmZ.turn {w0 w : World} {nv mv pv : Value} {x : Mo} {vv qv ev : Value} {g n gs bv bq nb nb' : Nat} {ks ks' : List ByteArray} {cs : List Int} {z z' : World} (h : JmZ w0 w nv mv pv x vv qv ev g n gs bv bq nb ks cs z) (hw0 : w0.heap.size ≤ w.heap.size) (hgw : g < w.heap.size) (hs : SetAt z' bv nb' ks') (hg : z.grownBy z' (some bv)) : JmZ w0 w nv mv pv x vv qv ev g n gs bv bq nb' ks' cs z' := by
  have hne : g ≠ bv := fun e => by
    obtain ⟨es, cl, q⟩ := h.sv.isMap
    exact h.cods.nomap (e ▸ q)
  refine ⟨h.bp.grown h.sv hg, h.bm.grown h.sv hg, h.bs.grown h.sv hg, hs, h.sq.kept hg (fun e => h.ne (Option.some.inj e).symm), h.ne, h.lo, ⟨h.cods.own.kept hg (.inr (fun e => hne (Option.some.inj e))), h.cods.len⟩, ⟨(h.but.bel).trans ?_, fun k hk hkg => (hg.block k (Nat.lt_of_lt_of_le hk h.but.bel.size) (fun e => by have := Option.some.inj e; have := h.lo; omega)).trans (h.but.block k hk hkg)⟩, h.old.grown hg h.old.size (fun k hk => by cases hk; exact Nat.le_trans hw0 h.lo)⟩
  refine ⟨hg.os, hg.tape, hg.output, hg.size, fun k hk => hg.block k (Nat.lt_of_lt_of_le hk (Nat.le_of_lt h.cods.lt)) (fun e => ?_)⟩
  have h1 := Option.some.inj e
  have h2 := h.lo
  omega
/-- The scope of an entry. -/
def scoM (m : Mo) (e : En) : Sco := ⟨true, (resultN :: m.vars) ++ [e.param], m.queues, fun _ => []⟩
def judE (ns : List Nd) (m : Mo) (cs : List Int) (e : En) : List Int := putAll (codeAt (scoM m e) ns) cs (plTo (undI ns e.body.toNat) (e.body.toNat + 1))
def judM (ns : List Nd) (m : Mo) (cs : List Int) (es : List En) : List Int := es.foldl (judE ns m) cs
theorem judM_snoc (ns : List Nd) (m : Mo) (cs : List Int) (es : List En) (e : En) : judM ns m cs (es ++ [e]) = judE ns m (judM ns m cs es) e := by simp [judM]
/-- What a body must be to be judged. -/
structure BodyOk (ns : List Nd) (b : Int) : Prop where
  lo : 0 ≤ b
  hi : b < (ns.length : Int)
  deep : (deepsTo ns (b.toNat + 1)).getD b.toNat 0 ≠ 0
structure TreeOk (ns : List Nd) : Prop where
  len : ns.length ≤ 1048576
  kids : ∀ x ∈ ns, x.kids.length ≤ 1048576
  ins : NsIn ns
  all : ∀ (j : Nat) (hj : j < ns.length), nodeB ns[j] (kinds ns j) = true
  low : KidsLow ns
theorem strs_one {w : World} {v : Value} {xs ys : List ByteArray} (h : StrsAt w v xs) (k : StrsAt w v ys) : xs = ys := by
  obtain ⟨ao, c, rfl, h1⟩ := h
  obtain ⟨bo, d, e, h2⟩ := k
  injection e with e1 e2 e3
  subst e1
  refine List.ext_getElem e2 fun j hj hk => ?_
  obtain ⟨a, ea, _, q⟩ := h1 j hj
  obtain ⟨b, eb, _, r⟩ := h2 j hk
  rw [ea] at eb
  injection eb with eb
  subst eb
  rw [q] at r
  injection r with r
  injection r
theorem namesIn_all (v : Value) (w : World) (h : ∃ xs, StrsAt w v xs ∧ SsIn xs) :
    Calls Tryz.prog 71 #[v] w fun e w' => e = .returned (.map (some w.heap.size)) ∧ (∀ xs, StrsAt w v xs → SetAt w' w.heap.size xs.length xs) ∧ Below w.heap.size w w' := by
  obtain ⟨xs, h1, h2⟩ := h
  refine (namesIn_any v xs w h1 h2.1 h2.2).mono ?_
  rintro e w' ⟨rfl, h3, h4⟩
  refine ⟨rfl, fun ys hy => ?_, h4⟩
  obtain rfl := strs_one h1 hy
  exact h3

theorem leave_same {x : Mo} {e : En} (h : entOkB x e = true) (s : ByteArray) : s ∈ ((resultN :: x.vars) ++ [e.param]).filter (fun y => !decide (y = e.param)) ↔ s ∈ resultN :: x.vars := by
  simp only [entOkB, unlikeB, decide_eq_true_eq] at h
  have h1 : e.param ∉ x.vars := fun q => (List.nodup_cons.1 (show (e.param :: (x.vars ++ x.queues)).Nodup from by have := h.1; rwa [List.append_assoc] at this)).1 (List.mem_append.2 (.inl q))
  have h2 : resultN ≠ e.param := fun q => h.2 (by rw [q]; simp)
  simp only [List.mem_filter, List.mem_append, List.mem_cons, Bool.not_eq_true', decide_eq_false_iff_not, List.not_mem_nil, or_false]
  constructor
  · rintro ⟨h4 | h4, h3⟩
    · exact h4
    · exact absurd h4 h3
  · intro h4
    refine ⟨.inl h4, fun e2 => ?_⟩
    subst e2
    rcases h4 with h4 | h4
    · exact h2 h4.symm
    · exact h1 h4
theorem CodesAt.nobox {w : World} {g n b : Nat} {cs : List Int} {c : Array Value} {t : TypeId} (h : CodesAt w g n cs) (hb : Box w b c t) (ht : t ≠ 3) : b ≠ g := by
  intro e
  subst e
  have h2 : w.heap[b]? = some (.cells c t (0, 0)) := hb
  rcases h.own.2 with ⟨e, _⟩ | ⟨g', cap, cur, e, _, hg, _⟩
  · cases e
  · injection e with e1
    injection e1 with e1
    injection e1 with e1
    subst e1
    rw [h2] at hg
    injection hg with hg
    injection hg with _ hg
    exact ht hg
theorem JmZ.judged {w0 w : World} {nv mv pv : Value} {x : Mo} {vv qv ev : Value} {g n gs bv bq nb : Nat} {ks : List ByteArray} {cs cs' : List Int} {z z' : World} (h : JmZ w0 w nv mv pv x vv qv ev g n gs bv bq nb ks cs z) (hw0 : w0.heap.size ≤ g) (hgw : g < w.heap.size) (hgs : gs ≠ g) (hc : CodesAt z' g n cs') (hb : But g z z') : JmZ w0 w nv mv pv x vv qv ev g n gs bv bq nb ks cs' z' :=
  ⟨h.bp.but hb (by omega), h.bm.but hb (by omega), h.bs.but hb hgs, h.sv.but h.cods hb, h.sq.but h.cods hb, h.ne, h.lo, hc, h.but.trans hb, h.old.trans (hb.bel.mono hw0)⟩
def JmR (w0 w : World) (nv mv pv : Value) (ns : List Nd) (x : Mo) (vv qv ev : Value) (g gs bv bq : Nat) (cs : List Int) (iv : Value) (wr : World) : Prop :=
  ∃ i : Nat, i ≤ x.ents.length ∧ iv = .int .i64 i ∧ Hid (JmZ w0 w nv mv pv x vv qv ev g ns.length gs bv bq (x.vars.length + 1 + i) (resultN :: x.vars) (judM ns x cs (x.ents.take i)) wr)

set_option maxRecDepth 100000 in
set_option maxHeartbeats 4000000 in
theorem judgeMonitor_any (nv mv pv vv qv ev : Value) (ns : List Nd) (x : Mo) (g : Nat) (cs : List Int) (w0 w : World) (hN0 : NdsAt w0 nv ns) (hM : SlV mv) (hP : SlV pv) (hR0 : NdsRoom w0 nv ns.length) (hV : StrsAt w0 vv x.vars) (hQ : StrsAt w0 qv x.queues) (hE : EnsAt w0 ev x.ents)
    (h0 : Below w0.heap.size w0 w) (hg0 : w0.heap.size ≤ g) (hC : CodesAt w g ns.length cs) (hT : TreeOk ns) (hI : MoIn x) (hB : ∀ e ∈ x.ents, BodyOk ns e.body) (hU : ∀ e ∈ x.ents, entOkB x e = true) :
    Calls Tryz.prog 40 #[.agg #[nv, mv, pv], .agg #[.string x.name, vv, qv, ev], .slice (some ⟨g, 0, none⟩) ns.length ns.length] w fun e w' => e = .returned (.tuple #[]) ∧ CodesAt w' g ns.length (judM ns x cs x.ents) ∧ But g w w' := by
  have hb1 : Below w.heap.size w (w.alloc (.cells #[nv, mv, pv] 33)) := (Below.refl _ _).alloc (Nat.le_refl _) _
  have hb2 : Below w.heap.size w ((w.alloc (.cells #[nv, mv, pv] 33)).alloc (.cells #[.string x.name, vv, qv, ev] 76)) := hb1.alloc hb1.size _
  have hb12 : Below (w.alloc (.cells #[nv, mv, pv] 33)).heap.size (w.alloc (.cells #[nv, mv, pv] 33)) ((w.alloc (.cells #[nv, mv, pv] 33)).alloc (.cells #[.string x.name, vv, qv, ev] 76)) := (Below.refl _ _).alloc (Nat.le_refl _) _
  have h02 := h0.trans (hb2.mono h0.size)
  have hsz : (w.alloc (.cells #[nv, mv, pv] 33)).heap.size = w.heap.size + 1 := by simp
  have BQ := Box.made (w.alloc (.cells #[nv, mv, pv] 33)) #[.string x.name, vv, qv, ev] 76
  rw [hsz] at BQ
  have Y : Hid (JmY w0 w nv mv pv x vv qv ev g ns.length cs ((w.alloc (.cells #[nv, mv, pv] 33)).alloc (.cells #[.string x.name, vv, qv, ev] 76))) :=
    ⟨(Box.made w #[nv, mv, pv] 33).stays hb12, BQ, hV.stays h02, hQ.stays h02, hC.stays hb2, But.of hb2 (Nat.le_of_lt hC.lt), h02⟩
  have hgw := hC.lt
  have hw0 := h0.size
  have HE := hide hE
  have HI := hide hI
  have HBO := hide hB
  have HUO := hide hU
  have CN := fun v z h => hide (namesIn_all v z h)
  have CE := fun b n ks s z h hn hs => hide (setEnter_any b n ks s z h hn hs)
  have CL := fun b n ks s z h hs => hide (setLeave_any b n ks s z h hs)
  have CJ := fun va qa ea s k cs z h1 h2 h3 hk hd => hide (judgeBody_any nv mv pv va qa ea ns s k g cs w0 z hN0 hM hP hR0 h1 hg0 h2 h3 hk hT.len hT.kids hT.ins hT.all hT.low hd)
  obtain ⟨no, nc, rfl, _⟩ := hN0
  obtain ⟨mo, mn, mc, rfl⟩ := hM
  obtain ⟨po, pn, pc, rfl⟩ := hP
  obtain ⟨vo, vc, rfl, _⟩ := hV
  obtain ⟨qo, qc, rfl, _⟩ := hQ
  obtain ⟨eo, ec, rfl, _⟩ := hE
  clear hb1 hb2 hb12 h02 hsz BQ hC hR0 h0 hI hB hU hT
  obtain ⟨W1, hW⟩ : ∃ W1, (w.alloc (.cells #[.slice no ns.length nc, .slice mo mn mc, .slice po pn pc] 33)).alloc (.cells #[.string x.name, .slice vo x.vars.length vc, .slice qo x.queues.length qc, .slice eo x.ents.length ec] 76) = W1 := ⟨_, rfl⟩
  have HW := hide hW
  rw [hW] at Y
  clear hW
  go_enter Tryz.func40, Tryz.ntmps40
  go_wp2_with fail
  rw [HW.out]
  have VV : Hid (∀ z, JmY w0 w (.slice no ns.length nc) (.slice mo mn mc) (.slice po pn pc) x (.slice vo x.vars.length vc) (.slice qo x.queues.length qc) (.slice eo x.ents.length ec) g ns.length cs z → ∃ xs, StrsAt z (.slice vo x.vars.length vc) xs ∧ SsIn xs) := fun z hz => ⟨_, hz.vars, HI.out.vars⟩
  have QQ : Hid (∀ z, JmY w0 w (.slice no ns.length nc) (.slice mo mn mc) (.slice po pn pc) x (.slice vo x.vars.length vc) (.slice qo x.queues.length qc) (.slice eo x.ents.length ec) g ns.length cs z → ∃ xs, StrsAt z (.slice qo x.queues.length qc) xs ∧ SsIn xs) := fun z hz => ⟨_, hz.queues, HI.out.queues⟩
  have KX := hide (Y.out.stays (Below.refl _ _).drew)
  have BA0 : Hid (Box (W1.alloc (.cells #[.bool false, .map none, .map none, .map none] 87)).drew W1.heap.size #[.bool false, .map none, .map none, .map none] 87) := Box.made W1 _ _
  have KW0 := hide (Y.out.stays ((Below.refl _ _).alloc (Nat.le_refl _) (.cells #[.bool false, .map none, .map none, .map none] 87)).drew)
  have c1 := Lib.cell_of_heap Y.out.bm 1
  have c2 := Lib.cell_of_heap Y.out.bm 2
  simp only [List.getElem?_toArray, List.getElem?_cons_succ, List.getElem?_cons_zero] at c1 c2
  have d1 := fun o => Y.out.bm.past o 1
  have d2 := fun o => Y.out.bm.past o 2
  simp only [List.getElem?_toArray, List.getElem?_cons_succ, List.getElem?_cons_zero] at d1 d2
  go_cut [6] from 9 (fun p z => ∃ gs bv bq, p = .pointer (some ⟨gs, 0, none⟩) ∧ Hid (JmZ w0 w (.slice no ns.length nc) (.slice mo mn mc) (.slice po pn pc) x (.slice vo x.vars.length vc) (.slice qo x.queues.length qc) (.slice eo x.ents.length ec) g ns.length gs bv bq x.vars.length x.vars cs z))
  case first =>
   go_region_with (first
    | (go_at_call 71; with_reducible (show Calls _ _ #[.slice vo x.vars.length vc] _ _); (first | (refine (unhide (CN _ _ (VV.out _ KX.out))).mono ?_; rintro e wv ⟨rfl, hsv, hbv⟩; have SV := hide (hsv _ KX.out.vars)) | (have BA := BA0; clear KX; have KX := KW0; refine (unhide (CN _ _ (VV.out _ KX.out))).mono ?_; rintro e wv ⟨rfl, hsv, hbv⟩; have SV := hide (hsv _ KX.out.vars)) | (have BA := hide (boxOf (c := #[.bool false, .map none, .map none, .map none]) (t := 87) KX.out); have KW := hide (KX.out.stays ((Below.refl _ _).alloc (Nat.le_refl _) (.cells #[.bool false, .map none, .map none, .map none] 87))); clear KX; have KX := KW; clear KW; refine (unhide (CN _ _ (VV.out _ KX.out))).mono ?_; rintro e wv ⟨rfl, hsv, hbv⟩; have SV := hide (hsv _ KX.out.vars))); (try (have BB := hide (BA.out.stays hbv); clear BA; have BA := BB; clear BB; have a0v := Lib.cell_of_heap BA.out 0; have a1v := Lib.cell_of_heap BA.out 1; have a2v := Lib.cell_of_heap BA.out 2; have a3v := Lib.cell_of_heap BA.out 3; simp only [List.getElem?_toArray, List.getElem?_cons_succ, List.getElem?_cons_zero] at a0v a1v a2v a3v; have b0v := BA.out.frozen 0; have b1v := BA.out.frozen 1; have b2v := BA.out.frozen 2; have b3v := BA.out.frozen 3)); have BV := hide hbv; have KY := hide (KX.out.stays hbv); clear KX; have KX := KY; clear KY hsv hbv; have c1v := Lib.cell_of_heap KX.out.bm 1; have c2v := Lib.cell_of_heap KX.out.bm 2; simp only [List.getElem?_toArray, List.getElem?_cons_succ, List.getElem?_cons_zero] at c1v c2v; have d1v := fun o => KX.out.bm.past o 1; have d2v := fun o => KX.out.bm.past o 2; simp only [List.getElem?_toArray, List.getElem?_cons_succ, List.getElem?_cons_zero] at d1v d2v)
    | (go_at_call 71; with_reducible (show Calls _ _ #[.slice qo x.queues.length qc] _ _); (first | (refine (unhide (CN _ _ (QQ.out _ KX.out))).mono ?_; rintro e wq ⟨rfl, hsq, hbq⟩; have SQ := hide (hsq _ KX.out.queues)) | (have BA := BA0; clear KX; have KX := KW0; refine (unhide (CN _ _ (QQ.out _ KX.out))).mono ?_; rintro e wq ⟨rfl, hsq, hbq⟩; have SQ := hide (hsq _ KX.out.queues)) | (have BA := hide (boxOf (c := #[.bool false, .map none, .map none, .map none]) (t := 87) KX.out); have KW := hide (KX.out.stays ((Below.refl _ _).alloc (Nat.le_refl _) (.cells #[.bool false, .map none, .map none, .map none] 87))); clear KX; have KX := KW; clear KW; refine (unhide (CN _ _ (QQ.out _ KX.out))).mono ?_; rintro e wq ⟨rfl, hsq, hbq⟩; have SQ := hide (hsq _ KX.out.queues))); (try (have BB := hide (BA.out.stays hbq); clear BA; have BA := BB; clear BB; have a0q := Lib.cell_of_heap BA.out 0; have a1q := Lib.cell_of_heap BA.out 1; have a2q := Lib.cell_of_heap BA.out 2; have a3q := Lib.cell_of_heap BA.out 3; simp only [List.getElem?_toArray, List.getElem?_cons_succ, List.getElem?_cons_zero] at a0q a1q a2q a3q; have b0q := BA.out.frozen 0; have b1q := BA.out.frozen 1; have b2q := BA.out.frozen 2; have b3q := BA.out.frozen 3)); have BQ := hide hbq; have KY := hide (KX.out.stays hbq); clear KX; have KX := KY; clear KY hsq hbq; have c1q := Lib.cell_of_heap KX.out.bm 1; have c2q := Lib.cell_of_heap KX.out.bm 2; simp only [List.getElem?_toArray, List.getElem?_cons_succ, List.getElem?_cons_zero] at c1q c2q; have d1q := fun o => KX.out.bm.past o 1; have d2q := fun o => KX.out.bm.past o 2; simp only [List.getElem?_toArray, List.getElem?_cons_succ, List.getElem?_cons_zero] at d1q d2q))
   all_goals (go_wp2_with fail; go_meet)
   all_goals (have l1 := SV.out.lt; have l2 := SQ.out.lt; have s0 := Y.out.but.bel.size; have s1 := BV.out.size; have s2 := BQ.out.size; have s3 := Y.out.bm.lt)
   all_goals (try (simp only [szA, szD] at SV))
   all_goals (try (simp only [szA] at SQ))
   all_goals (try simp at s1)
   all_goals (try simp at s2)
   all_goals (try simp at l1)
   all_goals (try simp at l2)
   all_goals (first | refine ⟨_, _, _, rfl, hide (JmZ.mk1 KX.out ?_ ?_ ?_ ?_)⟩ | refine ⟨_, _, _, rfl, hide (JmZ.mk2 KX.out BA.out ?_ ?_ ?_ ?_ ?_ hgw hw0)⟩)
   all_goals (first | exact SV.out | exact SQ.out | exact SV.out.all BQ.out | exact SQ.out.all BV.out | exact SV.out.all2 BQ.out | exact SQ.out.all2 BV.out | omega)
  case rest =>
   obtain ⟨gs, bv, bq, rfl, Z⟩ := hcut
   clear KX BA0 KW0 Y d1 d2 c1 c2 CN VV QQ HW
   have hel : x.ents.length ≤ 1048576 := HI.out.len
   have hvl : x.vars.length ≤ 1048576 := HI.out.vars.1
   have e1 := Lib.cell_of_heap Z.out.bs 1
   simp only [List.getElem?_toArray, List.getElem?_cons_succ, List.getElem?_cons_zero] at e1
   have CE0 := CE bv x.vars.length x.vars resultN wc Z.out.sv (by omega) (by decide)
   go_wp2_with fail
   refine (unhide CE0).mono ?_
   rintro e w2 ⟨rfl, hs2, hg2⟩
   have Z2 := hide (Z.out.turn hw0 hgw (hs2.same (ls := resultN :: x.vars) (fun s => by simp [or_comm])) hg2)
   clear e1 CE0 hs2 hg2 Z
   have q3 := Lib.cell_of_heap Z2.out.bm 3
   simp only [List.getElem?_toArray, List.getElem?_cons_succ, List.getElem?_cons_zero] at q3
   obtain ⟨m, em⟩ : ∃ m, x.ents.length = m := ⟨_, rfl⟩
   have EM := hide em
   rw [em] at Z2 HE hel q3 ⊢
   clear em
   go_wp2
   clear q3
   go_loopw [22] (JmR w0 w (.slice no ns.length nc) (.slice mo mn mc) (.slice po pn pc) ns x (.slice vo x.vars.length vc) (.slice qo x.queues.length qc) (.slice eo m ec) g gs bv bq cs) (fun iv _ => m - (intOf iv).toNat)
   case atStart => exact ⟨0, by omega, rfl, Z2.out⟩
   case round =>
    clear Z2
    obtain ⟨i, hi, rfl, Z⟩ := hrel
    rw [EM.out] at hi
    by_cases hlt : i < m
    · have hlt' : (i : Int) < (m : Int) := by omega
      have hi0 : (0 : Int) ≤ (i : Int) := by omega
      have hix : i < x.ents.length := by rw [EM.out]; exact hlt
      have HBD := hide (HBO.out _ (List.getElem_mem hix))
      have HUD := hide (HUO.out _ (List.getElem_mem hix))
      have HPS := hide (HI.out.ents _ (List.getElem_mem hix)).2
      have HT : Hid (judM ns x cs (x.ents.take (i + 1)) = judE ns x (judM ns x cs (x.ents.take i)) x.ents[i]) := by
        show _ = _
        rw [List.take_succ_eq_append_getElem hix, judM_snoc]
      obtain ⟨eo', ec', e5, hec⟩ := HE.out.stays Z.out.old
      injection e5 with e6 e7 e8
      subst e6
      obtain ⟨b, rfl, hbb, hy⟩ := hec i hix
      obtain ⟨r, hra⟩ : ∃ r, b.add (i * 3) = r := ⟨_, rfl⟩
      rw [hra] at hy
      obtain ⟨y, ey⟩ : ∃ y, x.ents[i] = y := ⟨_, rfl⟩
      rw [ey] at hy HBD HUD HPS HT
      obtain ⟨cs2, ecs⟩ : ∃ cs2, judM ns x cs (x.ents.take i) = cs2 := ⟨_, rfl⟩
      rw [ecs] at Z HT
      obtain ⟨d0, d1, d2⟩ := hy
      clear ey hec e7 e8 hbb hix ecs
      obtain ⟨bd, ebd⟩ : ∃ bd : Nat, y.body = (bd : Int) := ⟨y.body.toNat, by have := HBD.out.lo; omega⟩
      have HBN : Hid (bd < ns.length) := by have := HBD.out.hi; rw [ebd] at this; show _ < _; omega
      have HBP : Hid ((deepsTo ns (bd + 1)).getD bd 0 ≠ 0) := by have := HBD.out.deep; rw [ebd, Int.toNat_natCast] at this; exact this
      have HJE : Hid (judE ns x cs2 y = putAll (codeAt (scoM x y) ns) cs2 (plTo (undI ns bd) (bd + 1))) := by
        show _ = _
        unfold judE
        rw [ebd, Int.toNat_natCast]
      rw [ebd] at d2
      have BL := (Below.refl wr.heap.size wr).alloc (Nat.le_refl _) (.cells #[.string y.name, .string y.param, .int .i64 (bd : Int)] 99)
      have Z1 := hide (Z.out.stays BL)
      have BE := hide (Box.made wr #[.string y.name, .string y.param, .int .i64 (bd : Int)] 99)
      clear BL HBD ebd
      have CE1 := CE bv _ _ y.param _ Z1.out.sv (by omega) HPS.out
      have q1 := Lib.cell_of_heap Z1.out.bs 1
      simp only [List.getElem?_toArray, List.getElem?_cons_succ, List.getElem?_cons_zero] at q1
      go_wp2_with fail
      refine (unhide CE1).mono ?_
      rintro e w3 ⟨rfl, hs3, hg3⟩
      have BE3 := hide (BE.out.grown Z1.out.sv hg3)
      have Z3 := hide (Z1.out.turn hw0 hgw hs3 hg3)
      obtain ⟨ge, ege⟩ : ∃ ge, wr.heap.size = ge := ⟨_, rfl⟩
      rw [ege] at BE3 ⊢
      clear q1 d0 d1 d2 CE1 Z1 BE hs3 hg3 Z ege
      have p0 := Lib.cell_of_heap Z3.out.bp 0
      have p1 := Lib.cell_of_heap Z3.out.bp 1
      have p2 := Lib.cell_of_heap Z3.out.bp 2
      have s0 := Lib.cell_of_heap Z3.out.bs 0
      have s1 := Lib.cell_of_heap Z3.out.bs 1
      have s2 := Lib.cell_of_heap Z3.out.bs 2
      have s3 := Lib.cell_of_heap Z3.out.bs 3
      have t1 := Lib.cell_of_heap BE3.out 1
      have t2 := Lib.cell_of_heap BE3.out 2
      simp only [List.getElem?_toArray, List.getElem?_cons_succ, List.getElem?_cons_zero] at p0 p1 p2 s0 s1 s2 s3 t1 t2
      have CJ1 := CJ (.map (some bv)) (.map (some bq)) (.map none) (scoM x y) bd cs2 w3 Z3.out.old ⟨.inr ⟨_, _, rfl, Z3.out.sv⟩, .inr ⟨_, _, rfl, Z3.out.sq⟩, .inl ⟨rfl, fun _ => rfl⟩⟩ Z3.out.cods HBN.out HBP.out
      rw [← HJE.out] at CJ1
      go_wp2_with fail
      refine (unhide CJ1).mono ?_
      rintro e w4 ⟨rfl, hc4, hb4⟩
      have BE4 := hide (BE3.out.but hb4 (Z3.out.cods.nobox BE3.out (by decide)))
      have Z4 := hide (Z3.out.judged hg0 hgw (Z3.out.cods.nobox Z3.out.bs (by decide)) hc4 hb4)
      clear p0 p1 p2 s0 s1 s2 s3 t1 t2 CJ1 hc4 hb4 BE3 Z3
      have s1 := Lib.cell_of_heap Z4.out.bs 1
      have t1 := Lib.cell_of_heap BE4.out 1
      simp only [List.getElem?_toArray, List.getElem?_cons_succ, List.getElem?_cons_zero] at s1 t1
      have CL1 := CL bv _ _ y.param _ Z4.out.sv HPS.out
      go_wp2_with fail
      refine (unhide CL1).mono ?_
      rintro e w5 ⟨rfl, hs5, hg5⟩
      have Z5 := hide (Z4.out.turn hw0 hgw (hs5.same (leave_same HUD.out)) hg5)
      rw [← HT.out] at Z5
      clear s1 t1 CL1 hs5 hg5 Z4 BE4
      go_wp2
      go_roundw
      case rel => exact ⟨i + 1, by rw [EM.out]; omega, by go_num, Z5.out⟩
      case measure => simp [intOf]; omega
    · have hlt' : ¬ (i : Int) < (m : Int) := by omega
      have e9 : x.ents.take i = x.ents := List.take_of_length_le (by rw [EM.out]; omega)
      rw [e9] at Z
      go_wp2
      go_end0
      exact ⟨rfl, Z.out.cods, Z.out.but⟩
end Go.Proofs.YtpdpmnkonkpheaaGreat

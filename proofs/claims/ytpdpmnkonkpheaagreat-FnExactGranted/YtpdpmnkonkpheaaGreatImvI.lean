/-
  Walks of the program: a body is judged: a code for each of its nodes.
-/
import Derived.Test.YtpdpmnkonkpheaaGreatImvF
import Derived.Test.YtpdpmnkonkpheaaGreatImvG
import Derived.Deep.RegionHeld3
import Derived.Handy
import Derived.Test.YtpdpmnkonkpheaaGreatChecked
import Derived.BigQuiet
import Derived.WalkSmall
import Derived.Test.YtpdpmnkonkpheaaGreatPureP
namespace Go.Proofs.YtpdpmnkonkpheaaGreat
open Go.RowKit Go.Maps

/-- All that was there stays, but for one block. -/
structure But (g : Nat) (w w' : World) : Prop where
  bel : Below g w w'
  block : ∀ k, k < w.heap.size → k ≠ g → w'.heap[k]? = w.heap[k]?
theorem But.refl (g : Nat) (w : World) : But g w w := ⟨Below.refl _ _, fun _ _ _ => rfl⟩
theorem But.trans {g : Nat} {a b c : World} (h : But g a b) (k : But g b c) : But g a c := ⟨h.bel.trans k.bel, fun i hi hg => (k.block i (Nat.lt_of_lt_of_le hi h.bel.size) hg).trans (h.block i hi hg)⟩
theorem But.of {g : Nat} {w w' : World} (h : Below w.heap.size w w') (hg : g ≤ w.heap.size) : But g w w' := ⟨h.mono hg, fun i hi _ => h.block i hi⟩
theorem But.cell {g : Nat} {w w' : World} (h : But g w w') {p : Addr} (hp : p.block < w.heap.size) (hg : p.block ≠ g) : w'.cell? p = w.cell? p := World.cell?_of_block (w := w) (h.block p.block hp hg)
theorem But.setCell {g : Nat} {a w : World} (h : But g a w) (j : Nat) (u : Value) : But g a (w.setCell ⟨g, j, none⟩ u) :=
  ⟨h.bel.setCell (Nat.le_refl _) u, fun k hk hg => (Below.heap_setCell w _ u k hg).trans (h.block k hk hg)⟩
theorem But.drew {g : Nat} {a w : World} (h : But g a w) : But g a w.drew := ⟨h.bel.drew, h.block⟩
theorem Box.but {g b : Nat} {w w' : World} {cs : Array Value} {t : TypeId} (h : Box w b cs t) (hb : But g w w') (hg : b ≠ g) : Box w' b cs t := (hb.block b h.lt hg).trans h
/-- A row of codes in a block of its own. -/
structure CodesAt (w : World) (g n : Nat) (cs : List Int) : Prop where
  own : w.ownsRow g 3 1 (.slice (some ⟨g, 0, none⟩) n n) n (cs.map I64)
  len : cs.length = n
theorem CodesAt.lt {w : World} {g n : Nat} {cs : List Int} (h : CodesAt w g n cs) : g < w.heap.size := (h.own.lt g rfl).2
theorem CodesAt.nomap {w : World} {g n : Nat} {cs : List Int} (h : CodesAt w g n cs) {es : Array MapEntry} {cl : Nat} : w.heap[g]? ≠ some (.map es cl) := by
  rcases h.own.2 with ⟨e, _⟩ | ⟨g', cap, cur, e, _, hg, _⟩
  · cases e
  · injection e with e1
    injection e1 with e1
    injection e1 with e1
    subst e1
    rw [hg]
    intro q
    cases q
theorem CodesAt.stays {w w' : World} {g n : Nat} {cs : List Int} (h : CodesAt w g n cs) (hb : Below w.heap.size w w') : CodesAt w' g n cs := ⟨ownsInts_stays h.own hb, h.len⟩
theorem CodesAt.step {w : World} {g n : Nat} {cs : List Int} (h : CodesAt w g n cs) (j : Nat) (y : Int) : CodesAt (w.setCell ⟨g, j, none⟩ (.int .i64 y)) g n (cs.set j y) := by
  have := (h.own.stored j (.int .i64 y)).1
  refine ⟨?_, by rw [List.length_set]; exact h.len⟩
  rw [List.map_set]
  exact this
theorem CodesAt.cell {w : World} {g n : Nat} {cs : List Int} (h : CodesAt w g n cs) {j : Nat} (hj : j < n) : w.cell? ⟨g, j, none⟩ = some (.int .i64 (cs.getD j 0)) ∧ w.frozen? ⟨g, j, none⟩ = false := by
  refine ⟨?_, h.own.frozenAt j⟩
  rw [h.own.cellAt j (by omega), List.getElem?_map, List.getD_eq_getElem?_getD, List.getElem?_eq_getElem (by rw [h.len]; exact hj)]
  rfl
theorem SetAt.but {w w' : World} {b m g n : Nat} {ks : List ByteArray} {cs : List Int} (h : SetAt w b m ks) (hc : CodesAt w g n cs) (hb : But g w w') : SetAt w' b m ks := by
  have hl := h.lt
  obtain ⟨D, ⟨es, cl, q1, q2⟩, h2⟩ := h
  have hne : b ≠ g := fun e => hc.nomap (e ▸ q1)
  exact ⟨D, ⟨es, cl, (hb.block b hl hne).trans q1, q2⟩, h2⟩
theorem MsAt.but {w w' : World} {v : Value} {g n : Nat} {ks : List ByteArray} {cs : List Int} (h : MsAt w v ks) (hc : CodesAt w g n cs) (hb : But g w w') : MsAt w' v ks := by
  rcases h with h | ⟨b, m, rfl, h⟩
  · exact .inl h
  · exact .inr ⟨b, m, rfl, h.but hc hb⟩
theorem EsAt.but {w w' : World} {v : Value} {g n : Nat} {f : ByteArray → List ByteArray} {cs : List Int} (h : EsAt w v f) (hc : CodesAt w g n cs) (hb : But g w w') : EsAt w' v f := by
  rcases h with h | ⟨b, m, D, rfl, h1, h2⟩
  · exact .inl h
  · have hl := h1.lt
    obtain ⟨es, cl, q1, q2⟩ := h1
    have hne : b ≠ g := fun e => hc.nomap (e ▸ q1)
    refine .inr ⟨b, m, D, rfl, ⟨es, cl, (hb.block b hl hne).trans q1, q2⟩, fun s => ?_⟩
    obtain ⟨u, h3, h4⟩ := h2 s
    exact ⟨u, h3, h4.but hc hb⟩
theorem ScAt.but {w w' : World} {va qa ea : Value} {s : Sco} {g n : Nat} {cs : List Int} (h : ScAt w va qa ea s) (hc : CodesAt w g n cs) (hb : But g w w') : ScAt w' va qa ea s := ⟨h.vars.but hc hb, h.queues.but hc hb, h.ents.but hc hb⟩
/-- What a node is judged to be. -/
def codeAt (s : Sco) (ns : List Nd) (j : Nat) : Int := codeS s (ns.getD j default).kind (ns.getD j default).name (ns.getD j default).more (ns.getD j default).into
def putAll (f : Nat → Int) (cs : List Int) (ps : List Int) : List Int := ps.foldl (fun cs p => cs.set p.toNat (f p.toNat)) cs
theorem putAll_len (f : Nat → Int) : ∀ (ps cs : List Int), (putAll f cs ps).length = cs.length
  | [], _ => rfl
  | p :: ps, cs => by
    show (putAll f (cs.set p.toNat (f p.toNat)) ps).length = _
    rw [putAll_len f ps, List.length_set]
theorem putAll_snoc (f : Nat → Int) (cs ps : List Int) (p : Int) : putAll f cs (ps ++ [p]) = (putAll f cs ps).set p.toNat (f p.toNat) := by simp [putAll]
theorem plTo_in {u : List Bool} {i : Nat} {y : Int} (h : y ∈ plTo u i) : 0 ≤ y ∧ y < (i : Int) := by
  obtain ⟨j, hj, rfl⟩ := List.mem_map.1 h
  have := List.mem_range.1 (List.mem_filter.1 hj).1
  omega
/-- While codes are put: the boxes of the program and of the scope, the program, the scope, the places, the codes. -/
structure JbZ (w0 w : World) (nv mv pv va qa ea : Value) (ns : List Nd) (s : Sco) (g : Nat) (lv : Value) (ps : List Int) (cs : List Int) (z : World) : Prop where
  bp : Box z w.heap.size #[nv, mv, pv] 33
  bs : Box z (w.heap.size + 1) #[.bool s.inE, va, qa, ea] 87
  nds : NdsAt z nv ns
  sc : ScAt z va qa ea s
  row : z.ownsRow w.heap.size 3 1 lv ps.length (ps.map I64)
  cods : CodesAt z g ns.length cs
  but : But g w z
  old : Below w0.heap.size w0 z
theorem JbZ.stays {w0 w : World} {nv mv pv va qa ea : Value} {ns : List Nd} {s : Sco} {g : Nat} {lv : Value} {ps cs : List Int} {z z' : World} (h : JbZ w0 w nv mv pv va qa ea ns s g lv ps cs z) (hb : Below z.heap.size z z') : JbZ w0 w nv mv pv va qa ea ns s g lv ps cs z' :=
  ⟨h.bp.stays hb, h.bs.stays hb, h.nds.stays hb, h.sc.stays hb, ownsInts_stays h.row hb, h.cods.stays hb, h.but.trans (But.of hb (Nat.le_of_lt h.cods.lt)), h.old.trans (hb.mono h.old.size)⟩
theorem JbZ.put {w0 w : World} {nv mv pv va qa ea : Value} {ns : List Nd} {s : Sco} {g : Nat} {lv : Value} {ps cs : List Int} {z : World} (h : JbZ w0 w nv mv pv va qa ea ns s g lv ps cs z) (hN : NdsAt w0 nv ns) (h0 : w0.heap.size ≤ g) (hg : g < w.heap.size) (j : Nat) (y : Int) : JbZ w0 w nv mv pv va qa ea ns s g lv ps (cs.set j y) (z.setCell ⟨g, j, none⟩ (.int .i64 y)) := by
  have hb : But g z (z.setCell ⟨g, j, none⟩ (.int .i64 y)) := (But.refl g z).setCell j _
  have ho : Below w0.heap.size w0 (z.setCell ⟨g, j, none⟩ (.int .i64 y)) := h.old.setCell h0 _
  refine ⟨h.bp.but hb (by omega), h.bs.but hb (by omega), hN.stays ho, h.sc.but h.cods hb, ?_, h.cods.step j y, h.but.setCell j _, ho⟩
  have hlt := h.row.lt
  obtain ⟨h1, h2⟩ := h.row
  refine ⟨h1, ?_⟩
  rcases h2 with h2 | ⟨q, cap, cur, rfl, hb1, hq, r⟩
  · exact .inl h2
  · exact .inr ⟨q, cap, cur, rfl, hb1, (hb.block q (hlt q rfl).2 (by omega)).trans hq, r⟩
theorem IntsAt.own {base : Nat} {w : World} {v : Value} {xs : List Int} (h : w.ownsRow base 3 1 v xs.length (xs.map I64)) : IntsAt w v xs := by
  rcases h.2 with ⟨rfl, e⟩ | ⟨g, cap, cur, rfl, hb, hg, hr⟩
  · obtain rfl := List.length_eq_zero_iff.1 e
    exact ⟨none, 0, rfl, fun j hj => absurd hj (Nat.not_lt_zero j)⟩
  · refine ⟨some ⟨g, 0, none⟩, cap, rfl, fun j hj => ⟨⟨g, 0, none⟩, rfl, (h.lt g rfl).2, ?_⟩⟩
    rw [add_zero_at, h.cellAt j (by omega), List.getElem?_map, List.getElem?_eq_getElem hj]
    rfl
/-- One code is being put: the others are what they are. -/
def JbY (w0 w : World) (nv mv pv va qa ea : Value) (ns : List Nd) (s : Sco) (g : Nat) (lv : Value) (ps cs : List Int) (y : Nat) (cd : Int) (z : World) : Prop := ∃ cs3, JbZ w0 w nv mv pv va qa ea ns s g lv ps cs3 z ∧ cs3.set y cd = cs.set y cd
theorem JbY.stays {w0 w : World} {nv mv pv va qa ea : Value} {ns : List Nd} {s : Sco} {g : Nat} {lv : Value} {ps cs : List Int} {y : Nat} {cd : Int} {z z' : World} (h : JbY w0 w nv mv pv va qa ea ns s g lv ps cs y cd z) (hb : Below z.heap.size z z') : JbY w0 w nv mv pv va qa ea ns s g lv ps cs y cd z' := by
  obtain ⟨cs3, h1, h2⟩ := h
  exact ⟨cs3, h1.stays hb, h2⟩
theorem JbY.put {w0 w : World} {nv mv pv va qa ea : Value} {ns : List Nd} {s : Sco} {g : Nat} {lv : Value} {ps cs : List Int} {y : Nat} {cd : Int} {z : World} (h : JbY w0 w nv mv pv va qa ea ns s g lv ps cs y cd z) (hN : NdsAt w0 nv ns) (h0 : w0.heap.size ≤ g) (hg : g < w.heap.size) : JbZ w0 w nv mv pv va qa ea ns s g lv ps (cs.set y cd) (z.setCell ⟨g, y, none⟩ (.int .i64 cd)) := by
  obtain ⟨cs3, h1, h2⟩ := h
  rw [← h2]
  exact h1.put hN h0 hg y cd
theorem JbZ.again {w0 w : World} {nv mv pv va qa ea : Value} {ns : List Nd} {s : Sco} {g : Nat} {lv : Value} {ps cs : List Int} {y : Nat} {cd : Int} {z : World} (h : JbZ w0 w nv mv pv va qa ea ns s g lv ps (cs.set y cd) z) : JbY w0 w nv mv pv va qa ea ns s g lv ps cs y cd z := ⟨_, h, by rw [List.set_set]⟩
theorem JbZ.begin {w0 w : World} {nv mv pv va qa ea : Value} {ns : List Nd} {s : Sco} {g : Nat} {lv : Value} {ps cs : List Int} {y : Nat} {cd : Int} {z : World} (h : JbZ w0 w nv mv pv va qa ea ns s g lv ps cs z) : JbY w0 w nv mv pv va qa ea ns s g lv ps cs y cd z := ⟨_, h, rfl⟩
def JbR (w0 w : World) (nv mv pv va qa ea : Value) (ns : List Nd) (s : Sco) (g : Nat) (lv : Value) (ps cs : List Int) (iv : Value) (wr : World) : Prop :=
  ∃ i : Nat, i ≤ ps.length ∧ iv = .int .i64 i ∧ Hid (JbZ w0 w nv mv pv va qa ea ns s g lv ps (putAll (codeAt s ns) cs (ps.take i)) wr)

set_option maxRecDepth 100000 in
set_option maxHeartbeats 4000000 in
theorem judgeBody_any (nv mv pv va qa ea : Value) (ns : List Nd) (s : Sco) (k g : Nat) (cs : List Int) (w0 w : World) (hN0 : NdsAt w0 nv ns) (hM : SlV mv) (hP : SlV pv) (hR0 : NdsRoom w0 nv ns.length) (h0 : Below w0.heap.size w0 w) (hg0 : w0.heap.size ≤ g) (hS : ScAt w va qa ea s) (hC : CodesAt w g ns.length cs)
    (hk : k < ns.length) (hl : ns.length ≤ 1048576) (hkx : ∀ x ∈ ns, x.kids.length ≤ 1048576) (hin : NsIn ns)
    (hall : ∀ (j : Nat) (hj : j < ns.length), nodeB ns[j] (kinds ns j) = true) (hK : KidsLow ns) (hD : (deepsTo ns (k + 1)).getD k 0 ≠ 0) :
    Calls Tryz.prog 41 #[.agg #[nv, mv, pv], .int .i64 (k : Int), .agg #[.bool s.inE, va, qa, ea], .slice (some ⟨g, 0, none⟩) ns.length ns.length] w fun e w' => e = .returned (.tuple #[]) ∧ CodesAt w' g ns.length (putAll (codeAt s ns) cs (plTo (undI ns k) (k + 1))) ∧ But g w w' := by
  have hb1 : Below w.heap.size w (w.alloc (.cells #[nv, mv, pv] 33)) := (Below.refl _ _).alloc (Nat.le_refl _) _
  have hb2 : Below w.heap.size w ((w.alloc (.cells #[nv, mv, pv] 33)).alloc (.cells #[.bool s.inE, va, qa, ea] 87)) := hb1.alloc hb1.size _
  have hb12 : Below (w.alloc (.cells #[nv, mv, pv] 33)).heap.size (w.alloc (.cells #[nv, mv, pv] 33)) ((w.alloc (.cells #[nv, mv, pv] 33)).alloc (.cells #[.bool s.inE, va, qa, ea] 87)) := (Below.refl _ _).alloc (Nat.le_refl _) _
  have h02 := h0.trans (hb2.mono h0.size)
  have CU := hide (nodesUnder_any nv mv pv ns k _ (hN0.stays h02) hM hP (hR0.stays h02) hk hl hkx hall hK hD)
  have BP := hide ((Box.made w #[nv, mv, pv] 33).stays hb12)
  have BQ := hide (Box.made (w.alloc (.cells #[nv, mv, pv] 33)) #[.bool s.inE, va, qa, ea] 87)
  have hsz : (w.alloc (.cells #[nv, mv, pv] 33)).heap.size = w.heap.size + 1 := by simp
  rw [hsz] at BQ
  have q0 := Lib.cell_of_heap BP.out 0
  have q1 := Lib.cell_of_heap BP.out 1
  have q2 := Lib.cell_of_heap BP.out 2
  simp only [List.getElem?_toArray, List.getElem?_cons_succ, List.getElem?_cons_zero] at q0 q1 q2
  have HB := hide hb2
  have HN := hide (hN0.stays h02)
  have HS := hide (hS.stays hb2)
  have HC := hide (hC.stays hb2)
  have H02 := hide h02
  have HN0 := hide hN0
  have hgw := hC.lt
  have CT := fun kd nu nm mo it kv ks z h => hide (typed_any kd nu nm mo it kv ks z h)
  have CO := fun kd nu nm mo it kv ks z h hk hn hm hi => hide (codeOf_any va qa ea s kd nu nm mo it kv ks z h hk hn hm hi)
  have HIN := hide hin
  obtain ⟨no, nc, rfl, _⟩ := hN0
  obtain ⟨mo, mn, mc, rfl⟩ := hM
  obtain ⟨po, pn, pc, rfl⟩ := hP
  obtain ⟨m1, rfl⟩ := hS.vars.is
  obtain ⟨m2, rfl⟩ := hS.queues.is
  obtain ⟨m3, rfl⟩ := hS.ents.is
  obtain ⟨ps, eps⟩ : ∃ ps, plTo (undI ns k) (k + 1) = ps := ⟨_, rfl⟩
  have HPI : Hid (∀ y ∈ ps, 0 ≤ y ∧ y < (ns.length : Int)) := fun y hy => by
    rw [← eps] at hy
    have := plTo_in hy
    omega
  have HPL : Hid (ps.length ≤ 1048576) := by
    have := plTo_len (undI ns k) (k + 1)
    rw [eps] at this
    exact Nat.le_trans this (by omega)
  rw [eps] at CU ⊢
  clear hb1 hb2 hb12 h02 hsz eps hS hC hR0 h0 hkx hall hK hD hin
  go_enter Tryz.func41, Tryz.ntmps41
  go_wp2_with fail
  refine (unhide CU).mono ?_
  rintro e w1 ⟨lv, rfl, ho1, hb3⟩
  have Z : Hid (JbZ w0 w (.slice no ns.length nc) (.slice mo mn mc) (.slice po pn pc) (.map m1) (.map m2) (.map m3) ns s g lv ps cs w1) :=
    ⟨BP.out.stays hb3, BQ.out.stays hb3, HN.out.stays hb3, HS.out.stays hb3, ownsRow_low ho1 HB.out.size, HC.out.stays hb3, But.of (HB.out.trans (hb3.mono HB.out.size)) (Nat.le_of_lt hgw), H02.out.trans (hb3.mono H02.out.size)⟩
  obtain ⟨lo, lc, rfl, _⟩ := IntsAt.own Z.out.row
  clear hb3 ho1 BP BQ HN HS HC H02 HB q0 q1 q2 CU
  obtain ⟨n, en⟩ : ∃ n, ns.length = n := ⟨_, rfl⟩
  have EN := hide en
  obtain ⟨m, em⟩ : ∃ m, ps.length = m := ⟨_, rfl⟩
  have EM := hide em
  have hm : m ≤ 1048576 := by rw [← em]; exact HPL.out
  rw [em] at Z
  rw [en] at Z hl ⊢
  rw [em]
  clear en em
  go_wp2
  go_loopw [14] (JbR w0 w (.slice no n nc) (.slice mo mn mc) (.slice po pn pc) (.map m1) (.map m2) (.map m3) ns s g (.slice lo m lc) ps cs) (fun iv _ => m - (intOf iv).toNat)
  case atStart => exact ⟨0, by omega, rfl, Z.out⟩
  case round =>
    clear Z
    obtain ⟨i, hi, rfl, Z⟩ := hrel
    rw [EM.out] at hi
    by_cases hlt : i < m
    · have hlt' : (i : Int) < (m : Int) := by omega
      have hi0 : (0 : Int) ≤ (i : Int) := by omega
      have hix : i < ps.length := by rw [EM.out]; exact hlt
      obtain ⟨lo', lc', e5, hlc⟩ := IntsAt.own Z.out.row
      injection e5 with e6 e7 e8
      subst e6
      obtain ⟨a, rfl, _, hy⟩ := hlc i hix
      have hpi := HPI.out _ (List.getElem_mem hix)
      have HT : Hid (putAll (codeAt s ns) cs (ps.take (i + 1)) = (putAll (codeAt s ns) cs (ps.take i)).set ps[i].toNat (codeAt s ns ps[i].toNat)) := by
        show _ = _
        rw [List.take_succ_eq_append_getElem hix, putAll_snoc]
      obtain ⟨y, ey⟩ : ∃ y : Nat, ps[i] = (y : Int) := ⟨ps[i].toNat, by omega⟩
      rw [ey] at hy HT hpi
      rw [Int.toNat_natCast] at HT
      have hy0 : (0 : Int) ≤ (y : Int) := by omega
      have hyx : y < ns.length := by omega
      have hyn : (y : Int) < (n : Int) := by rw [← EN.out]; omega
      obtain ⟨cs2, ecs⟩ : ∃ cs2, putAll (codeAt s ns) cs (ps.take i) = cs2 := ⟨_, rfl⟩
      rw [ecs] at Z HT
      clear hlc e7 e8 ey hix ecs
      have HX := hide (HIN.out _ (List.getElem_mem hyx))
      have HCA : Hid (codeAt s ns y = codeS s ns[y].kind ns[y].name ns[y].more ns[y].into) := by
        show _ = _
        unfold codeAt
        rw [List.getD_eq_getElem?_getD, List.getElem?_eq_getElem hyx]
        rfl
      obtain ⟨na, ncc, p, kv, e5, hpa, hpb, hnode⟩ := HN0.out.node y hyx
      injection e5 with e6 e7 e8
      subst e6
      have HND : Hid (∀ z, Below w0.heap.size w0 z → NdCell z p ns[y] kv) := fun z hz => hnode.stays hz hpb
      obtain ⟨ko, kc, rfl, _⟩ := hnode.kids
      have HN1 : Hid (NdsAt w0 (.slice (some na) n nc) ns) := by have h := HN0.out; rw [← EN.out]; exact h
      clear hnode e7 e8 hpb
      obtain ⟨x, ex⟩ : ∃ x, ns[y] = x := ⟨_, rfl⟩
      rw [ex] at HX HCA HND
      clear ex
      obtain ⟨kd, nu, nm, mr, it, ks⟩ := x
      dsimp only at HX HCA HND
      have CT1 := fun z h => CT kd nu nm mr it (.slice ko ks.length kc) ks z h
      have CO1 := fun z h => CO kd nu nm mr it (.slice ko ks.length kc) ks z h ⟨_, _, _, rfl⟩ HX.out.2.1 HX.out.2.2.1 HX.out.2.2.2
      rw [← HCA.out] at CO1
      obtain ⟨cd, ecd⟩ : ∃ cd, codeAt s ns y = cd := ⟨_, rfl⟩
      rw [ecd] at CO1 HT
      obtain ⟨tv, etv⟩ : ∃ tv, typedV kd nu nm mr it (.slice ko ks.length kc) ks = tv := ⟨_, rfl⟩
      rw [etv] at CT1 CO1
      clear CT CO ecd etv HCA
      have OLD : Hid (∀ z, JbY w0 w (.slice (some na) n nc) (.slice mo mn mc) (.slice po pn pc) (.map m1) (.map m2) (.map m3) ns s g (.slice (some a) m lc) ps cs2 y cd z → Below w0.heap.size w0 z) := fun z hz => by obtain ⟨_, h, _⟩ := hz; exact h.old
      have SCO : Hid (∀ z, JbY w0 w (.slice (some na) n nc) (.slice mo mn mc) (.slice po pn pc) (.map m1) (.map m2) (.map m3) ns s g (.slice (some a) m lc) ps cs2 y cd z → ScAt z (.map m1) (.map m2) (.map m3) s) := fun z hz => by obtain ⟨_, h, _⟩ := hz; exact h.sc
      have CEL : Hid (∀ z, JbY w0 w (.slice (some na) n nc) (.slice mo mn mc) (.slice po pn pc) (.map m1) (.map m2) (.map m3) ns s g (.slice (some a) m lc) ps cs2 y cd z → ∃ v, z.cell? { block := g, off := y } = some v ∧ z.frozen? { block := g, off := y } = false) := fun z hz => by obtain ⟨_, h, _⟩ := hz; exact ⟨_, h.cods.cell hyx⟩

      go_wp2_with fail
      have KC : Hid (∀ z, JbY w0 w (.slice (some na) n nc) (.slice mo mn mc) (.slice po pn pc) (.map m1) (.map m2) (.map m3) ns s g (.slice (some a) m lc) ps cs2 y cd z → (z.cell? { block := w.heap.size, off := 0 } = some (.slice (some na) n nc) ∧ z.cell? { block := w.heap.size + 1, off := 0 } = some (.bool s.inE) ∧ z.cell? { block := w.heap.size + 1, off := 1 } = some (.map m1) ∧ z.cell? { block := w.heap.size + 1, off := 2 } = some (.map m2) ∧ z.cell? { block := w.heap.size + 1, off := 3 } = some (.map m3) ∧ z.cell? p = some (.int .i64 kd) ∧ z.cell? { block := p.block, off := p.off + 1 } = some (.int .i64 nu) ∧ z.cell? { block := p.block, off := p.off + 2 } = some (.string nm) ∧ z.cell? { block := p.block, off := p.off + 3 } = some (.string mr) ∧ z.cell? { block := p.block, off := p.off + 4 } = some (.string it) ∧ z.cell? { block := p.block, off := p.off + 5 } = some (.slice ko ks.length kc) ∧ Hid (JbY w0 w (.slice (some na) n nc) (.slice mo mn mc) (.slice po pn pc) (.map m1) (.map m2) (.map m3) ns s g (.slice (some a) m lc) ps cs2 y cd z))) := fun z hz => by
        have hy0 := hz
        obtain ⟨cs3, hz, _⟩ := hz
        have p0 := Lib.cell_of_heap hz.bp 0
        have s0 := Lib.cell_of_heap hz.bs 0
        have s1 := Lib.cell_of_heap hz.bs 1
        have s2 := Lib.cell_of_heap hz.bs 2
        have s3 := Lib.cell_of_heap hz.bs 3
        simp only [List.getElem?_toArray, List.getElem?_cons_succ, List.getElem?_cons_zero] at p0 s0 s1 s2 s3
        obtain ⟨d0, d1, d2, d3, d4, d5, _⟩ := HND.out z hz.old
        exact ⟨p0, s0, s1, s2, s3, d0, d1, d2, d3, d4, d5, hy0⟩
      have KV : Hid (∀ z, (z.cell? { block := w.heap.size, off := 0 } = some (.slice (some na) n nc) ∧ z.cell? { block := w.heap.size + 1, off := 0 } = some (.bool s.inE) ∧ z.cell? { block := w.heap.size + 1, off := 1 } = some (.map m1) ∧ z.cell? { block := w.heap.size + 1, off := 2 } = some (.map m2) ∧ z.cell? { block := w.heap.size + 1, off := 3 } = some (.map m3) ∧ z.cell? p = some (.int .i64 kd) ∧ z.cell? { block := p.block, off := p.off + 1 } = some (.int .i64 nu) ∧ z.cell? { block := p.block, off := p.off + 2 } = some (.string nm) ∧ z.cell? { block := p.block, off := p.off + 3 } = some (.string mr) ∧ z.cell? { block := p.block, off := p.off + 4 } = some (.string it) ∧ z.cell? { block := p.block, off := p.off + 5 } = some (.slice ko ks.length kc) ∧ Hid (JbY w0 w (.slice (some na) n nc) (.slice mo mn mc) (.slice po pn pc) (.map m1) (.map m2) (.map m3) ns s g (.slice (some a) m lc) ps cs2 y cd z)) → JbY w0 w (.slice (some na) n nc) (.slice mo mn mc) (.slice po pn pc) (.map m1) (.map m2) (.map m3) ns s g (.slice (some a) m lc) ps cs2 y cd z) := fun z hz => hz.2.2.2.2.2.2.2.2.2.2.2.out
      have KP : Hid (∀ z z', (z.cell? { block := w.heap.size, off := 0 } = some (.slice (some na) n nc) ∧ z.cell? { block := w.heap.size + 1, off := 0 } = some (.bool s.inE) ∧ z.cell? { block := w.heap.size + 1, off := 1 } = some (.map m1) ∧ z.cell? { block := w.heap.size + 1, off := 2 } = some (.map m2) ∧ z.cell? { block := w.heap.size + 1, off := 3 } = some (.map m3) ∧ z.cell? p = some (.int .i64 kd) ∧ z.cell? { block := p.block, off := p.off + 1 } = some (.int .i64 nu) ∧ z.cell? { block := p.block, off := p.off + 2 } = some (.string nm) ∧ z.cell? { block := p.block, off := p.off + 3 } = some (.string mr) ∧ z.cell? { block := p.block, off := p.off + 4 } = some (.string it) ∧ z.cell? { block := p.block, off := p.off + 5 } = some (.slice ko ks.length kc) ∧ Hid (JbY w0 w (.slice (some na) n nc) (.slice mo mn mc) (.slice po pn pc) (.map m1) (.map m2) (.map m3) ns s g (.slice (some a) m lc) ps cs2 y cd z)) → Below z.heap.size z z' → (z'.cell? { block := w.heap.size, off := 0 } = some (.slice (some na) n nc) ∧ z'.cell? { block := w.heap.size + 1, off := 0 } = some (.bool s.inE) ∧ z'.cell? { block := w.heap.size + 1, off := 1 } = some (.map m1) ∧ z'.cell? { block := w.heap.size + 1, off := 2 } = some (.map m2) ∧ z'.cell? { block := w.heap.size + 1, off := 3 } = some (.map m3) ∧ z'.cell? p = some (.int .i64 kd) ∧ z'.cell? { block := p.block, off := p.off + 1 } = some (.int .i64 nu) ∧ z'.cell? { block := p.block, off := p.off + 2 } = some (.string nm) ∧ z'.cell? { block := p.block, off := p.off + 3 } = some (.string mr) ∧ z'.cell? { block := p.block, off := p.off + 4 } = some (.string it) ∧ z'.cell? { block := p.block, off := p.off + 5 } = some (.slice ko ks.length kc) ∧ Hid (JbY w0 w (.slice (some na) n nc) (.slice mo mn mc) (.slice po pn pc) (.map m1) (.map m2) (.map m3) ns s g (.slice (some a) m lc) ps cs2 y cd z'))) := fun z z' hz hb => KC.out _ ((KV.out _ hz).stays hb)
      have K0 := hide (KC.out _ (Z.out.stays (Below.refl _ _).drew).begin)
      clear hy
      go_region_held3 (fun z => z.cell? { block := w.heap.size, off := 0 } = some (.slice (some na) n nc) ∧ z.cell? { block := w.heap.size + 1, off := 0 } = some (.bool s.inE) ∧ z.cell? { block := w.heap.size + 1, off := 1 } = some (.map m1) ∧ z.cell? { block := w.heap.size + 1, off := 2 } = some (.map m2) ∧ z.cell? { block := w.heap.size + 1, off := 3 } = some (.map m3) ∧ z.cell? p = some (.int .i64 kd) ∧ z.cell? { block := p.block, off := p.off + 1 } = some (.int .i64 nu) ∧ z.cell? { block := p.block, off := p.off + 2 } = some (.string nm) ∧ z.cell? { block := p.block, off := p.off + 3 } = some (.string mr) ∧ z.cell? { block := p.block, off := p.off + 4 } = some (.string it) ∧ z.cell? { block := p.block, off := p.off + 5 } = some (.slice ko ks.length kc) ∧ Hid (JbY w0 w (.slice (some na) n nc) (.slice mo mn mc) (.slice po pn pc) (.map m1) (.map m2) (.map m3) ns s g (.slice (some a) m lc) ps cs2 y cd z)) (first | exact K0.out | exact KC.out _ Y7.out | exact KP.out _ _ (by assumption) hb7 | exact KC.out _ (Y7.out.put HN1.out hg0 hgw).again) ((first
        | (go_at_call 76; refine (unhide (CT1 _ (HND.out _ (OLD.out _ (KV.out _ (by assumption)))).kids)).mono ?_; rintro e w7 ⟨rfl, hb7⟩)
        | (go_at_call 75; refine (unhide (CO1 _ (SCO.out _ (KV.out _ (by assumption))))).mono ?_; rintro e w7 ⟨rfl, hb7⟩; have Y7 := hide ((KV.out _ (by assumption)).stays hb7); obtain ⟨_, r0, r1⟩ := CEL.out _ Y7.out)))
      have D := hide (Y7.out.put HN1.out hg0 hgw)
      go_wp2
      go_roundw
      case rel => exact ⟨i + 1, by rw [EM.out]; omega, by go_num, by rw [HT.out]; exact D.out⟩
      case measure => simp [intOf]; omega
    · have hlt' : ¬ (i : Int) < (m : Int) := by omega
      have e9 : ps.take i = ps := List.take_of_length_le (by rw [EM.out]; omega)
      rw [e9] at Z
      go_wp2
      go_end0
      exact ⟨rfl, Z.out.cods, Z.out.but⟩
end Go.Proofs.YtpdpmnkonkpheaaGreat

namespace Go.Proofs.YtpdpmnkonkpheaaGreat
open Go.RowKit

theorem is_result (x : ByteArray) : (x.toList == [114, 101, 115, 117, 108, 116]) = true ↔ x = resultN := by
  have e : resultN.toList = [114, 101, 115, 117, 108, 116] := by decide +kernel
  rw [← e]
  exact str_beq

def UnA (w : World) (xs : List ByteArray) (iv : Value) (wr : World) : Prop := ∃ i : Nat, i ≤ xs.length ∧ iv = .int .i64 i ∧ Hid (Below w.heap.size w wr) ∧ Hid (unlikeB (xs.take i) = true)
def UnB (w : World) (xs : List ByteArray) (i : Nat) (x : ByteArray) (kv : Value) (wr : World) : Prop := ∃ k : Nat, k ≤ i ∧ kv = .int .i64 k ∧ Hid (Below w.heap.size w wr) ∧ Hid (∀ j, j < k → xs[j]? ≠ some x)

set_option maxRecDepth 100000 in
set_option maxHeartbeats 2000000 in
theorem specUnlike_any (v : Value) (xs : List ByteArray) (w : World) (h : StrsAt w v xs) (hl : xs.length ≤ 1048576) :
    Calls Tryz.prog 55 #[v] w fun e w' => e = .returned (.bool (unlikeB xs)) ∧ Below w.heap.size w w' := by
  have H := hide h
  obtain ⟨ao, c, rfl, _⟩ := h
  obtain ⟨n, en⟩ : ∃ n, xs.length = n := ⟨_, rfl⟩
  have EN := hide en
  rw [en] at H hl ⊢
  clear en
  go_enter Tryz.func55, Tryz.ntmps55
  go_wp2
  go_loopw [3] (UnA w xs) (fun iv _ => n - (intOf iv).toNat)
  case atStart => exact ⟨0, by omega, rfl, Below.refl _ _, unlike_nil⟩
  case round =>
    obtain ⟨i, hi, rfl, HB, HU⟩ := hrel
    rw [EN.out] at hi
    by_cases hlt : i < n
    · have hlt' : (i : Int) < (n : Int) := by omega
      have hi0 : (0 : Int) ≤ (i : Int) := by omega
      have hix : i < xs.length := by rw [EN.out]; exact hlt
      obtain ⟨ao', c', e1, hc1⟩ := H.out.stays HB.out
      injection e1 with e2 e3 e4
      subst e2
      obtain ⟨a, rfl, _, hx⟩ := hc1 i hix
      have HS := hide (unlike_step hix HU.out)
      have HE := hide (unlike_stop hix)
      obtain ⟨x, ex⟩ : ∃ x, xs[i] = x := ⟨_, rfl⟩
      have EX := hide ex
      rw [ex] at hx HS HE
      clear e3 e4 ex
      by_cases hr : x = resultN
      · have HF := hide (HE.out (Or.inl hr))
        have hr' : (x.toList == [114, 101, 115, 117, 108, 116]) = true := (is_result x).2 hr
        clear hc1 hr
        go_wp2
        go_ret
        exact ⟨by rw [HF.out]; rfl, HB.out⟩
      · have hr' : (x.toList == [114, 101, 115, 117, 108, 116]) = false := by rw [Bool.eq_false_iff]; exact fun q => hr ((is_result x).1 q)
        have HR := hide hr
        have HC := hide hc1
        clear hc1 hr
        go_wp2
        go_loopw [4] (fun iv wr => UnB w xs i x iv wr) (fun iv _ => i - (intOf iv).toNat)
        case atStart => exact ⟨0, by omega, rfl, HB.out, fun j hj => absurd hj (Nat.not_lt_zero j)⟩
        case round =>
          clear hx
          obtain ⟨k, hk, rfl, HB2, HN⟩ := hrel
          by_cases hlk : k < i
          · have hlk' : (k : Int) < (i : Int) := by omega
            have hk0 : (0 : Int) ≤ (k : Int) := by omega
            have hkn : (k : Int) < (n : Int) := by omega
            have hkx : k < xs.length := by rw [EN.out]; omega
            obtain ⟨ao', c', e1, hc1⟩ := H.out.stays HB2.out
            injection e1 with e2 e3 e4
            subst e2
            obtain ⟨a', ea, _, hx⟩ := hc1 i hix
            cases ea
            obtain ⟨a', ea, _, hy⟩ := hc1 k hkx
            cases ea
            obtain ⟨y, ey⟩ : ∃ y, xs[k] = y := ⟨_, rfl⟩
            rw [EX.out] at hx
            rw [ey] at hy
            have EY : Hid (xs[k]? = some y) := by show _ = _; rw [List.getElem?_eq_getElem hkx, ey]
            have HM : Hid (y ∈ xs.take i) := by rw [← ey]; exact mem_take_of hlk hkx
            clear e3 e4 ey hc1
            by_cases hxy : y = x
            · have HF := hide (HE.out (Or.inr (by rw [← hxy]; exact HM.out)))
              subst hxy
              go_wp2
              go_quiet (fail)
              all_goals go_wp2
              all_goals go_ret
              all_goals exact ⟨by rw [HF.out]; rfl, below_drewN HB2.out _⟩
            · have hxy' : (y.toList == x.toList) = false := by rw [Bool.eq_false_iff]; exact fun h => hxy (str_beq.1 h)
              have HN2 : Hid (∀ j, j < k + 1 → xs[j]? ≠ some x) := fun j hj => by
                rcases Nat.lt_succ_iff_lt_or_eq.1 hj with hj | hj
                · exact HN.out j hj
                · subst hj; rw [EY.out]; exact fun q => hxy (Option.some.inj q)
              go_wp2
              go_quiet (fail)
              all_goals go_wp2
              all_goals go_roundw
              case rel => exact ⟨k + 1, by omega, by go_num, below_drewN HB2.out _, HN2⟩
              case measure => simp [intOf]; omega
          · have hlk' : ¬ (k : Int) < (i : Int) := by omega
            have HU2 := hide (HS.out HR.out (not_mem_take (fun j hj => HN.out j (by omega))))
            go_wp2
            go_roundw
            case rel => exact ⟨i + 1, by rw [EN.out]; omega, by go_num, HB2.out, HU2⟩
            case measure => simp [intOf]; omega
    · have hlt' : ¬ (i : Int) < (n : Int) := by omega
      have HF : Hid (unlikeB xs = true) := by
        have h := HU.out
        rw [List.take_of_length_le (by rw [EN.out]; omega)] at h
        exact h
      go_wp2
      go_ret
      exact ⟨by rw [HF.out]; rfl, HB.out⟩
end Go.Proofs.YtpdpmnkonkpheaaGreat

namespace Go.Proofs.YtpdpmnkonkpheaaGreat
open Go.RowKit

noncomputable def entOkB (m : Mo) (e : En) : Bool := unlikeB ([e.param] ++ m.vars ++ m.queues)
noncomputable def monOkB (m : Mo) : Bool := m.ents.all (entOkB m) && unlikeB (m.ents.map En.name)
noncomputable def proOkB (ms : List Mo) (p : Pr) : Bool := p.uses.all (fun u => decide (0 ≤ firstAt (monN u) ms)) && (unlikeB p.uses && unlikeB p.vars)
noncomputable def namB (ms : List Mo) (ps : List Pr) : Bool := ms.all monOkB && (ps.all (proOkB ms) && (unlikeB (ms.map Mo.name) && unlikeB (ps.map Pr.name)))

theorem allB_no {α : Type} {f : α → Bool} {xs : List α} {i : Nat} (hi : i < xs.length) (h : f xs[i] = false) : xs.all f = false := by
  cases he : xs.all f with
  | false => rfl
  | true =>
    rw [List.all_eq_true.1 he _ (List.getElem_mem hi)] at h
    exact absurd h (by decide)
theorem allB_yes {α : Type} {f : α → Bool} {xs : List α} (h : ∀ i (hi : i < xs.length), f xs[i] = true) : xs.all f = true :=
  List.all_eq_true.2 fun x hx => by
    obtain ⟨i, hi, rfl⟩ := List.getElem_of_mem hx
    exact h i hi
theorem names_grow {α : Type} {f : α → ByteArray} {xs : List α} {i : Nat} (hi : i < xs.length) : ((xs.take i).map f).map Value.string ++ [Value.string (f xs[i])] = ((xs.take (i + 1)).map f).map Value.string := by
  rw [List.take_succ_eq_append_getElem hi, List.map_append, List.map_append]
  rfl
theorem monOkB_ent {m : Mo} {i : Nat} (hi : i < m.ents.length) (h : entOkB m m.ents[i] = false) : monOkB m = false := by
  unfold monOkB
  rw [allB_no hi h]
  rfl
theorem monOkB_names {m : Mo} (h : unlikeB (m.ents.map En.name) = false) : monOkB m = false := by
  unfold monOkB
  rw [h, Bool.and_false]
theorem monOkB_yes {m : Mo} (h : ∀ i (hi : i < m.ents.length), entOkB m m.ents[i] = true) (hn : unlikeB (m.ents.map En.name) = true) : monOkB m = true := by
  unfold monOkB
  rw [allB_yes h, hn]
  rfl
theorem namB_mon {ms : List Mo} {ps : List Pr} {i : Nat} (hi : i < ms.length) (h : monOkB ms[i] = false) : namB ms ps = false := by
  unfold namB
  rw [allB_no hi h]
  rfl
theorem namB_pro {ms : List Mo} {ps : List Pr} {i : Nat} (hi : i < ps.length) (h : proOkB ms ps[i] = false) : namB ms ps = false := by
  unfold namB
  rw [allB_no hi h, Bool.false_and, Bool.and_false]
theorem proOkB_use {ms : List Mo} {p : Pr} {i : Nat} (hi : i < p.uses.length) (h : firstAt (monN p.uses[i]) ms < 0) : proOkB ms p = false := by
  unfold proOkB
  rw [allB_no (f := fun u => decide (0 ≤ firstAt (monN u) ms)) hi (decide_eq_false (by omega))]
  rfl
theorem proOkB_of {ms : List Mo} {p : Pr} (h : ∀ i (hi : i < p.uses.length), ¬ firstAt (monN p.uses[i]) ms < 0) : proOkB ms p = (unlikeB p.uses && unlikeB p.vars) := by
  unfold proOkB
  rw [allB_yes (f := fun u => decide (0 ≤ firstAt (monN u) ms)) fun i hi => decide_eq_true (by have := h i hi; omega)]
  rfl
theorem namB_of {ms : List Mo} {ps : List Pr} (hm : ∀ i (hi : i < ms.length), monOkB ms[i] = true) (hp : ∀ i (hi : i < ps.length), proOkB ms ps[i] = true) : namB ms ps = (unlikeB (ms.map Mo.name) && unlikeB (ps.map Pr.name)) := by
  unfold namB
  rw [allB_yes hm, allB_yes hp]
  rfl
end Go.Proofs.YtpdpmnkonkpheaaGreat

/-
  The law of UsersOf, out of its pieces.
-/
import Derived.Test.YtpdpmnkonkpheaaLawUs
import Derived.Test.YtpdpmnkonkpheaaUsrW
import Derived.Test.YtpdpmnkonkpheaaTurnW
import Derived.Test.YtpdpmnkonkpheaaMarkI
namespace Go.Proofs.Ytpdpmnkonkpheaa
open Go.RowKit

theorem owns_same {z z' : World} {base e s n : Nat} {v : Value} {xs : List Value} (h : z.ownsRow base e s v n xs) (hk : ∀ g, v.ownBlock = some g → z'.heap[g]? = z.heap[g]?) : z'.ownsRow base e s v n xs := by
  refine ⟨h.1, ?_⟩
  rcases h.2 with h0 | ⟨g, cap, cur, rfl, hb1, hg, hr⟩
  · exact .inl h0
  · exact .inr ⟨g, cap, cur, rfl, hb1, (hk g rfl).trans hg, hr⟩
theorem ints_of_own {w : World} {base n : Nat} {v : Value} {xs : List Int} (h : w.ownsRow base 3 1 v n (xs.map I64)) : IntsAt w v xs := IntsIn.at (CellsIn.own h)
/-- What holds while the law runs, once the program has answered. -/
structure LwU (w : World) (nv mv pv : Value) (B T g : Nat) (a b c : Value) (x : Pg) (L : List Int) (v0 v1 : Value) (z : World) : Prop where
  bA : Box z w.heap.size #[nv, mv, pv] 26
  b0 : Box z g #[a, b, c] 33
  bel : Below w.heap.size w z
  r0 : z.ownsRow w.heap.size 3 1 v0 L.length (L.map I64)
  r1 : z.ownsRow T 3 1 v1 L.length (L.map I64)
  own : PgAt z a b c x
  sN : ShR B T 6 (fNod B T) x.nodes.length z a
  sM : ShR B T 4 (fMon B T) x.mons.length z b
  sP : ShR B T 4 (fPro B T) x.pros.length z c
theorem LwU.stays {w : World} {nv mv pv : Value} {B T g : Nat} {a b c : Value} {x : Pg} {L : List Int} {v0 v1 : Value} {z z' : World} (h : LwU w nv mv pv B T g a b c x L v0 v1 z) (hb : Below z.heap.size z z') : LwU w nv mv pv B T g a b c x L v0 v1 z' := by
  have ht : Turn z.heap.size T z z' := Turn.below hb (Nat.le_refl _)
  exact ⟨h.bA.stays hb, h.b0.stays hb, h.bel.trans (hb.mono h.bel.size), ownsInts_stays h.r0 hb, ownsInts_stays h.r1 hb, h.own.stays hb, h.sN.turn ht fun i _ => fNod_s B T i, h.sM.turn ht fun i _ => fMon_s B T i, h.sP.turn ht fun i _ => fPro_s B T i⟩
theorem LwU.spread {w : World} {nv mv pv : Value} {B T g : Nat} {a b c : Value} {x : Pg} {L : List Int} {v0 v1 : Value} {z : World} (h : LwU w nv mv pv B T g a b c x L v0 v1 z) :
    z.cell? ⟨w.heap.size, 0, none⟩ = some nv ∧ z.cell? ⟨w.heap.size, 1, none⟩ = some mv ∧ z.cell? ⟨w.heap.size, 2, none⟩ = some pv ∧ z.cell? ⟨g, 0, none⟩ = some a ∧ z.cell? ⟨g, 1, none⟩ = some b ∧ z.cell? ⟨g, 2, none⟩ = some c ∧ Hid (LwU w nv mv pv B T g a b c x L v0 v1 z) :=
  ⟨Lib.cell_of_heap h.bA 0, Lib.cell_of_heap h.bA 1, Lib.cell_of_heap h.bA 2, Lib.cell_of_heap h.b0 0, Lib.cell_of_heap h.b0 1, Lib.cell_of_heap h.b0 2, h⟩
/-- What is left once the argument is marked. -/
structure LxU (w : World) (nv mv pv : Value) (T : Nat) (L M : List Int) (v0 v1 : Value) (z : World) : Prop where
  bA : Box z w.heap.size #[nv, mv, pv] 26
  bel : Below w.heap.size w z
  r0 : z.ownsRow w.heap.size 3 1 v0 L.length (L.map I64)
  r1 : z.ownsRow T 3 1 v1 L.length (M.map I64)
theorem LxU.stays {w : World} {nv mv pv : Value} {T : Nat} {L M : List Int} {v0 v1 : Value} {z z' : World} (h : LxU w nv mv pv T L M v0 v1 z) (hb : Below z.heap.size z z') : LxU w nv mv pv T L M v0 v1 z' := ⟨h.bA.stays hb, h.bel.trans (hb.mono h.bel.size), ownsInts_stays h.r0 hb, ownsInts_stays h.r1 hb⟩
theorem LwU.marked {w : World} {nv mv pv : Value} {B T g : Nat} {a b c : Value} {x : Pg} {L : List Int} {v0 v1 : Value} {z z' : World} (h : LwU w nv mv pv B T g a b c x L v0 v1 z) (ht : Turn B T z z') (hw : w.heap.size < B) (h0 : ∀ i, v0.ownBlock = some i → i < B) : LxU w nv mv pv T L L v0 v1 z' :=
  ⟨(ht.bel.block _ hw).trans h.bA, h.bel.trans (ht.bel.mono (Nat.le_of_lt hw)), owns_same h.r0 (fun i hi => ht.bel.block i (h0 i hi)), owns_same h.r1 (fun i hi => ht.out i (h.r1.lt i hi).1 (h.r1.lt i hi).2)⟩

set_option maxRecDepth 100000 in
set_option maxHeartbeats 4000000 in
theorem lawUsersOf (nv mv pv : Value) (x : Pg) (m : Int) (w : World) (h : PgAt w nv mv pv x) (hm : PgMax x) :
    Calls Try.prog 4 #[.agg #[nv, mv, pv], .int .i64 m] w fun e w' => e = .returned (.bool true) ∧ Below w.heap.size w w' := by
  have HM := hide hm
  have HPW := hide h
  have BA := hide (Box.made w #[nv, mv, pv] 26)
  have BB : Hid (Below w.heap.size w (w.alloc (.cells #[nv, mv, pv] 26))) := (Below.refl _ _).alloc (Nat.le_refl _) _
  have HA := hide (h.stays BB.out)
  obtain ⟨⟨a0, b0, rfl, _⟩, ⟨a1, b1, rfl, _⟩, ⟨a2, b2, rfl, _⟩⟩ := h
  clear hm
  go_enter Try.func4, Try.ntmps4
  go_wp2_with fail
  refine (szProgram_any x _ _ _ _ _ (by omega) (by omega) HA.out.nodes HA.out.mons HA.out.pros HM.out).mono ?_
  rintro e z1 ⟨r, rfl, hr, hb1⟩
  have BA1 := hide (BA.out.stays hb1)
  have BB1 := hide (BB.out.trans (hb1.mono BB.out.size))
  have HA1 := hide (HA.out.stays hb1)
  have p0 := Lib.cell_of_heap BA1.out 0
  have p1 := Lib.cell_of_heap BA1.out 1
  have p2 := Lib.cell_of_heap BA1.out 2
  simp at p0 p1 p2
  clear hb1 BA BB HA
  by_cases hr0 : r < 0
  · clear hr
    go_wp2
    go_ret
    exact ⟨rfl, BB1.out⟩
  have hsz : szPg x ≤ 1048576 := by have := (hr.resolve_left hr0).2; omega
  have hI : Hid (PgLen x) := szPg_len hsz
  have hJ := hide (szPg_names hsz)
  clear hsz
  clear hr
  go_wp2_with fail
  refine (toProgram_at HA1.out hI.out).mono ?_
  rintro e z2 ⟨o0, n0, c0, o1, n1, c1, o2, n2, c2, rfl, hc2, hb2⟩
  have BA2 := hide (BA1.out.stays hb2)
  have BB2 := hide (BB1.out.trans (hb2.mono BB1.out.size))
  have HA2 := hide (HA1.out.stays hb2)
  have P2 := hide hc2.at
  clear p0 p1 p2
  have p0 := Lib.cell_of_heap BA2.out 0
  have p1 := Lib.cell_of_heap BA2.out 1
  have p2 := Lib.cell_of_heap BA2.out 2
  simp at p0 p1 p2
  clear hb2 hc2 BA1 BB1 HA1
  go_wp2_with fail
  refine (specUsers_any _ _ _ x.mons x.pros m _ P2.out.1.nodes.sl P2.out.1.mons P2.out.1.pros hI.out.pl hI.out.ml (fun y hy => (hI.out.pro y hy).1)).mono ?_
  rintro e z3 ⟨v0, rfl, hr3, hb3⟩
  have BA3 := hide (BA2.out.stays hb3)
  have BB3 := hide (BB2.out.trans (hb3.mono BB2.out.size))
  have HA3 := hide (HA2.out.stays hb3)
  have R3 := hide (ownsRow_lo hr3 BB2.out.size)
  have HL : Hid ((usersL x.mons x.pros m x.pros.length).length ≤ 1048576) := by
    have h1 := usersL_len x.mons x.pros m x.pros.length
    have h2 := hI.out.pl
    show _ ≤ _
    omega
  have CG := fun v1 v2 z h1 h2 => hide (eqIntS_same v1 v2 (usersL x.mons x.pros m x.pros.length) z h1 h2 HL.out)
  have CM := fun v z base k h1 h2 => hide (markInts_any v _ base k (usersL x.mons x.pros m x.pros.length) z HL.out h1 h2)
  have CHd := fun v z base k h1 h2 => hide (heldInts_any v (usersL x.mons x.pros m x.pros.length).length base k z HL.out h1 h2)
  have CI := fun a b c z h1 h2 h3 => hide (implUsers_any a b c x.mons x.pros m z h1 h2 h3 hI.out.pl (fun y hy => (hI.out.pro y hy).1) hJ.out.2 hJ.out.1)
  obtain ⟨L, eL⟩ : ∃ L, usersL x.mons x.pros m x.pros.length = L := ⟨_, rfl⟩
  rw [eL] at R3 HL CG CM CHd CI
  have HWB : Hid (w.heap.size < z3.heap.size) := BA3.out.lt
  have H0 : Hid (∀ i, v0.ownBlock = some i → i < z3.heap.size) := fun i hi => (R3.out.lt i hi).2
  clear p0 p1 p2 eL hr3
  have p0 := Lib.cell_of_heap BA3.out 0
  have p1 := Lib.cell_of_heap BA3.out 1
  have p2 := Lib.cell_of_heap BA3.out 2
  simp at p0 p1 p2
  clear hb3 BA2 BB2 HA2 P2
  go_wp2_with fail
  refine (toProgram_at HA3.out hI.out).mono ?_
  rintro e z4 ⟨o3, n3, c3, o4, n4, c4, o5, n5, c5, rfl, hc4, hb4⟩
  obtain ⟨B, eB⟩ : ∃ B, z3.heap.size = B := ⟨_, rfl⟩
  obtain ⟨T, eT⟩ : ∃ T, z4.heap.size = T := ⟨_, rfl⟩
  rw [eB] at HWB H0
  have HBT : Hid (B ≤ T) := by rw [← eB, ← eT]; exact hb4.size
  have SH : Hid (ShR B T 6 (fNod B T) x.nodes.length z4 (.slice o3 n3 c3) ∧ ShR B T 4 (fMon B T) x.mons.length z4 (.slice o4 n4 c4) ∧ ShR B T 4 (fPro B T) x.pros.length z4 (.slice o5 n5 c5)) := by
    obtain ⟨nv', mv', pv', e, h1, h2, h3⟩ := hc4
    injection e with e1 e
    injection e with e2 e
    injection e with e3 _
    subst e1 e2 e3
    rw [eB] at h1 h2 h3
    exact ⟨h1.sh (by omega) hI.out.kids, h2.sh (by omega) hI.out.mon, h3.sh (by omega) hI.out.pro⟩
  have L4 : Hid (LawB w (.slice a0 x.nodes.length b0) (.slice a1 x.mons.length b1) (.slice a2 x.pros.length b2) x T (.slice o3 n3 c3) (.slice o4 n4 c4) (.slice o5 n5 c5) (z4.alloc (.cells #[.slice o3 n3 c3, .slice o4 n4 c4, .slice o5 n5 c5] 33))) := by
    have hb : Below z4.heap.size z4 (z4.alloc (.cells #[.slice o3 n3 c3, .slice o4 n4 c4, .slice o5 n5 c5] 33)) := (Below.refl _ _).alloc (Nat.le_refl _) _
    have hb5 := BB3.out.trans (hb4.mono BB3.out.size)
    rw [← eT]
    exact ⟨(BA3.out.stays hb4).stays hb, Box.made _ _ _, hb5.trans (hb.mono hb5.size), (HA3.out.stays hb4).stays hb, hc4.at.1.stays hb⟩
  have R4 : Hid ((z4.alloc (.cells #[.slice o3 n3 c3, .slice o4 n4 c4, .slice o5 n5 c5] 33)).ownsRow w.heap.size 3 1 v0 L.length (L.map I64)) := ownsInts_stays (ownsInts_stays R3.out hb4) ((Below.refl _ _).alloc (Nat.le_refl _) _)
  have TT : Hid (Turn T T z4 (z4.alloc (.cells #[.slice o3 n3 c3, .slice o4 n4 c4, .slice o5 n5 c5] 33))) := Turn.below ((Below.refl _ _).alloc (Nat.le_refl _) _) (by rw [eT]; exact Nat.le_refl _)
  have S5 : Hid (ShR B T 6 (fNod B T) x.nodes.length (z4.alloc (.cells #[.slice o3 n3 c3, .slice o4 n4 c4, .slice o5 n5 c5] 33)) (.slice o3 n3 c3) ∧ ShR B T 4 (fMon B T) x.mons.length (z4.alloc (.cells #[.slice o3 n3 c3, .slice o4 n4 c4, .slice o5 n5 c5] 33)) (.slice o4 n4 c4) ∧ ShR B T 4 (fPro B T) x.pros.length (z4.alloc (.cells #[.slice o3 n3 c3, .slice o4 n4 c4, .slice o5 n5 c5] 33)) (.slice o5 n5 c5)) :=
    ⟨SH.out.1.turn TT.out fun i _ => fNod_s B T i, SH.out.2.1.turn TT.out fun i _ => fMon_s B T i, SH.out.2.2.turn TT.out fun i _ => fPro_s B T i⟩
  have ET := hide eT
  have HTZ : Hid (T < (z4.alloc (.cells #[.slice o3 n3 c3, .slice o4 n4 c4, .slice o5 n5 c5] 33)).heap.size) := by rw [← eT]; show _ < _; simp
  clear p0 p1 p2 hb4 hc4 BA3 BB3 HA3 eB eT TT SH R3
  go_wp2_with fail
  rw [ET.out]
  refine (unhide (CI _ _ _ _ L4.out.own.nodes.sl L4.out.own.mons L4.out.own.pros)).mono ?_
  rintro e z5 ⟨v1, rfl, hr5, hb5⟩
  have L5 : Hid (LwU w (.slice a0 x.nodes.length b0) (.slice a1 x.mons.length b1) (.slice a2 x.pros.length b2) B T T (.slice o3 n3 c3) (.slice o4 n4 c4) (.slice o5 n5 c5) x L v0 v1 z5) := by
    have h5 := L4.out.stays hb5
    have ht : Turn (z4.alloc (.cells #[.slice o3 n3 c3, .slice o4 n4 c4, .slice o5 n5 c5] 33)).heap.size T _ z5 := Turn.below hb5 (Nat.le_refl _)
    exact ⟨h5.bA, h5.b0, h5.bel, ownsInts_stays R4.out hb5, ownsRow_lo hr5 (Nat.le_of_lt HTZ.out), h5.own, S5.out.1.turn ht fun i _ => fNod_s B T i, S5.out.2.1.turn ht fun i _ => fMon_s B T i, S5.out.2.2.turn ht fun i _ => fPro_s B T i⟩
  have HT5 : Hid (T ≤ z5.heap.size) := Nat.le_trans (Nat.le_of_lt HTZ.out) hb5.size
  clear hb5 hr5 L4 R4 S5
  obtain ⟨g0, g1, g2, g3, g4, g5, hh⟩ := L5.out.spread
  go_wp2_with fail
  refine (unhide (CG _ _ _ (ints_of_own L5.out.r1) (ints_of_own L5.out.r0))).mono ?_
  rintro e z6 ⟨rfl, hb6⟩
  have L6 := hide (L5.out.stays hb6)
  have HT6 : Hid (T ≤ z6.heap.size) := Nat.le_trans HT5.out hb6.size
  clear hb6 L5 g0 g1 g2 g3 g4 g5 hh
  obtain ⟨g0, g1, g2, g3, g4, g5, hh⟩ := L6.out.spread
  go_wp2_with fail
  have KC : Hid (∀ z, LwU w (.slice a0 x.nodes.length b0) (.slice a1 x.mons.length b1) (.slice a2 x.pros.length b2) B T T (.slice o3 n3 c3) (.slice o4 n4 c4) (.slice o5 n5 c5) x L v0 v1 z → (z.cell? ⟨w.heap.size, 0, none⟩ = some (.slice a0 x.nodes.length b0) ∧ z.cell? ⟨w.heap.size, 1, none⟩ = some (.slice a1 x.mons.length b1) ∧ z.cell? ⟨w.heap.size, 2, none⟩ = some (.slice a2 x.pros.length b2) ∧ z.cell? ⟨T, 0, none⟩ = some (.slice o3 n3 c3) ∧ z.cell? ⟨T, 1, none⟩ = some (.slice o4 n4 c4) ∧ z.cell? ⟨T, 2, none⟩ = some (.slice o5 n5 c5) ∧ Hid (LwU w (.slice a0 x.nodes.length b0) (.slice a1 x.mons.length b1) (.slice a2 x.pros.length b2) B T T (.slice o3 n3 c3) (.slice o4 n4 c4) (.slice o5 n5 c5) x L v0 v1 z))) := fun z hz => by
    exact hz.spread
  have KV : Hid (∀ z, (z.cell? ⟨w.heap.size, 0, none⟩ = some (.slice a0 x.nodes.length b0) ∧ z.cell? ⟨w.heap.size, 1, none⟩ = some (.slice a1 x.mons.length b1) ∧ z.cell? ⟨w.heap.size, 2, none⟩ = some (.slice a2 x.pros.length b2) ∧ z.cell? ⟨T, 0, none⟩ = some (.slice o3 n3 c3) ∧ z.cell? ⟨T, 1, none⟩ = some (.slice o4 n4 c4) ∧ z.cell? ⟨T, 2, none⟩ = some (.slice o5 n5 c5) ∧ Hid (LwU w (.slice a0 x.nodes.length b0) (.slice a1 x.mons.length b1) (.slice a2 x.pros.length b2) B T T (.slice o3 n3 c3) (.slice o4 n4 c4) (.slice o5 n5 c5) x L v0 v1 z)) → LwU w (.slice a0 x.nodes.length b0) (.slice a1 x.mons.length b1) (.slice a2 x.pros.length b2) B T T (.slice o3 n3 c3) (.slice o4 n4 c4) (.slice o5 n5 c5) x L v0 v1 z) := fun z hz => hz.2.2.2.2.2.2.out
  have KP : Hid (∀ z z', (z.cell? ⟨w.heap.size, 0, none⟩ = some (.slice a0 x.nodes.length b0) ∧ z.cell? ⟨w.heap.size, 1, none⟩ = some (.slice a1 x.mons.length b1) ∧ z.cell? ⟨w.heap.size, 2, none⟩ = some (.slice a2 x.pros.length b2) ∧ z.cell? ⟨T, 0, none⟩ = some (.slice o3 n3 c3) ∧ z.cell? ⟨T, 1, none⟩ = some (.slice o4 n4 c4) ∧ z.cell? ⟨T, 2, none⟩ = some (.slice o5 n5 c5) ∧ Hid (LwU w (.slice a0 x.nodes.length b0) (.slice a1 x.mons.length b1) (.slice a2 x.pros.length b2) B T T (.slice o3 n3 c3) (.slice o4 n4 c4) (.slice o5 n5 c5) x L v0 v1 z)) → Below z.heap.size z z' → (z'.cell? ⟨w.heap.size, 0, none⟩ = some (.slice a0 x.nodes.length b0) ∧ z'.cell? ⟨w.heap.size, 1, none⟩ = some (.slice a1 x.mons.length b1) ∧ z'.cell? ⟨w.heap.size, 2, none⟩ = some (.slice a2 x.pros.length b2) ∧ z'.cell? ⟨T, 0, none⟩ = some (.slice o3 n3 c3) ∧ z'.cell? ⟨T, 1, none⟩ = some (.slice o4 n4 c4) ∧ z'.cell? ⟨T, 2, none⟩ = some (.slice o5 n5 c5) ∧ Hid (LwU w (.slice a0 x.nodes.length b0) (.slice a1 x.mons.length b1) (.slice a2 x.pros.length b2) B T T (.slice o3 n3 c3) (.slice o4 n4 c4) (.slice o5 n5 c5) x L v0 v1 z'))) := fun z z' hz hb => KC.out _ ((KV.out _ hz).stays hb)
  have K0 := hide (KC.out _ (L6.out.stays (Below.refl _ _).drew))
  clear g0 g1 g2 g3 g4 g5 hh
  go_region_held3 (fun z => z.cell? ⟨w.heap.size, 0, none⟩ = some (.slice a0 x.nodes.length b0) ∧ z.cell? ⟨w.heap.size, 1, none⟩ = some (.slice a1 x.mons.length b1) ∧ z.cell? ⟨w.heap.size, 2, none⟩ = some (.slice a2 x.pros.length b2) ∧ z.cell? ⟨T, 0, none⟩ = some (.slice o3 n3 c3) ∧ z.cell? ⟨T, 1, none⟩ = some (.slice o4 n4 c4) ∧ z.cell? ⟨T, 2, none⟩ = some (.slice o5 n5 c5) ∧ Hid (LwU w (.slice a0 x.nodes.length b0) (.slice a1 x.mons.length b1) (.slice a2 x.pros.length b2) B T T (.slice o3 n3 c3) (.slice o4 n4 c4) (.slice o5 n5 c5) x L v0 v1 z)) (first | exact K0.out | exact KP.out _ _ (by assumption) hb7) ((first
    | (go_at_call 7; refine (toProgram_at (HPW.out.stays (KV.out _ (by assumption)).bel) hI.out).mono ?_; rintro e w7 ⟨o6, n6, c6, o7, n7, c7, o8, n8, c8, rfl, hc7, hb7⟩; have P7 := hide hc7.at; clear hc7)
    | (go_at_call 9; refine (eqProgram_at (KV.out _ (by assumption)).own P7.out.1 hI.out).mono ?_; rintro e w8 ⟨rfl, hb7⟩)))
  have D := hide (KV.out _ (by assumption))
  have HT8 : Hid (T ≤ w8.heap.size) := Nat.le_of_lt D.out.b0.lt
  clear KC KV KP K0 L6 HT6
  obtain ⟨g0, g1, g2, g3, g4, g5, hh⟩ := D.out.spread
  go_wp2_with fail
  refine (turnProgram_any _ _ _ 1 _ D.out.sN D.out.sM D.out.sP hI.out.nl hI.out.ml hI.out.pl (Nat.le_trans HBT.out HT8.out) HT8.out (by omega) (by omega)).mono ?_
  rintro e z9 ⟨k9, rfl, hk9, hl9, ht9⟩
  have X9 := hide (D.out.marked ht9 HWB.out H0.out)
  have hk0 : ¬ k9 < 0 := by omega
  clear ht9 D g0 g1 g2 g3 g4 g5 hh hk9 hl9
  go_wp2_with fail
  refine (unhide (CG _ _ _ (ints_of_own X9.out.r1) (ints_of_own X9.out.r0))).mono ?_
  rintro e z10 ⟨rfl, hb10⟩
  have X10 := hide (X9.out.stays hb10)
  clear hb10 X9
  go_wp2_with fail
  refine (unhide (CM _ _ _ 1 (by omega) X10.out.r1)).mono ?_
  rintro e z11 ⟨rfl, hr11, hb11, hk11⟩
  have X11 : Hid (LxU w (.slice a0 x.nodes.length b0) (.slice a1 x.mons.length b1) (.slice a2 x.pros.length b2) T L (nMarks 1 L.length) v0 v1 z11) := by
    have hwT : w.heap.size < T := Nat.lt_of_lt_of_le HWB.out HBT.out
    refine ⟨(hb11.block _ hwT).trans X10.out.bA, X10.out.bel.trans (hb11.mono (Nat.le_of_lt hwT)), owns_same X10.out.r0 (fun i hi => hb11.block i (Nat.lt_of_lt_of_le (H0.out i hi) HBT.out)), hr11⟩
  have CH1 := fun z h => CHd v1 z T 1 (by omega) h
  obtain ⟨nn, enn⟩ : ∃ nn : Int, ((1 + L.length : Nat) : Int) = nn := ⟨_, rfl⟩
  have hnn : ¬ nn < 0 := by omega
  rw [enn]
  simp only [enn] at CH1
  clear hr11 hb11 hk11 X10 CHd enn
  go_wp2_with fail
  refine (unhide (CH1 _ X11.out.r1)).mono ?_
  rintro e z12 ⟨rfl, hb12⟩
  have X12 := hide (X11.out.stays hb12)
  clear hb12 X11
  have p0 := Lib.cell_of_heap X12.out.bA 0
  have p1 := Lib.cell_of_heap X12.out.bA 1
  have p2 := Lib.cell_of_heap X12.out.bA 2
  simp at p0 p1 p2
  go_wp2_with fail
  refine (toProgram_at (HPW.out.stays X12.out.bel) hI.out).mono ?_
  rintro e z13 ⟨o6, n6, c6, o7, n7, c7, o8, n8, c8, rfl, hc13, hb13⟩
  have P13 := hide hc13.at
  have X13 := hide (X12.out.stays hb13)
  clear hc13 hb13 X12 p0 p1 p2
  go_wp2_with fail
  refine (unhide (CI _ _ _ _ P13.out.1.nodes.sl P13.out.1.mons P13.out.1.pros)).mono ?_
  rintro e z14 ⟨v2, rfl, hr14, hb14⟩
  have X14 := hide (X13.out.stays hb14)
  have R14 := hide (ints_of_own hr14)
  clear hr14 hb14 X13 P13
  go_wp2_with fail
  refine (unhide (CG _ _ _ R14.out (ints_of_own X14.out.r0))).mono ?_
  rintro e z15 ⟨rfl, hb15⟩
  have X15 := hide (X14.out.stays hb15)
  clear hb15 X14 R14
  go_wp2_with fail
  refine (unhide (CH1 _ X15.out.r1)).mono ?_
  rintro e z16 ⟨rfl, hb16⟩
  have X16 := hide (X15.out.stays hb16)
  clear hb16 X15
  go_wp2
  go_ret
  exact ⟨rfl, X16.out.bel⟩
end Go.Proofs.Ytpdpmnkonkpheaa

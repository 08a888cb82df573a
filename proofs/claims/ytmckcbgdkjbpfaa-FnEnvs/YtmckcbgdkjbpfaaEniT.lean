/-
  Walks: two Envs put together, by the program.
-/
import Derived.Test.YtmckcbgdkjbpfaaEnvU
import Derived.Test.YtmckcbgdkjbpfaaEniB
import Derived.Test.YtmckcbgdkjbpfaaSetW
import Derived.Deep.CutRange
import Derived.BigQuiet
import Derived.Deep.RegionLaw
namespace Go.Proofs.Ytmckcbgdkjbpfaa
open Go.RowKit

theorem SetAt.eq {w w' : World} {b n : Nat} {ks : List ByteArray} (h : SetAt w b n ks) (e : w'.heap[b]? = w.heap[b]?) : SetAt w' b n ks := by
  obtain ⟨D, ⟨es, cl, q1, q2⟩, h2⟩ := h
  exact ⟨D, ⟨es, cl, e.trans q1, q2⟩, h2⟩
theorem SetAt.norow {w : World} {b n B e k : Nat} {ks : List ByteArray} {v : Value} {xs : List Value} (h : SetAt w b n ks) (ho : w.ownsRow B e 1 v k xs) : v.ownBlock ≠ some b := by
  obtain ⟨D, ⟨es, cl, q1, q2⟩, h2⟩ := h
  rcases ho.2 with ⟨rfl, _⟩ | ⟨g, cap, cur, rfl, _, hg, _⟩
  · simp [Value.ownBlock]
  · intro h
    simp only [Value.ownBlock, Option.some.injEq] at h
    subst h
    rw [hg] at q1
    simp at q1
theorem SetAt.nobox {w : World} {b n g : Nat} {ks : List ByteArray} {cs : Array Value} {t : TypeId} (h : SetAt w b n ks) (hb : Box w g cs t) : b ≠ g := by
  obtain ⟨D, ⟨es, cl, q1, q2⟩, h2⟩ := h
  rintro rfl
  have hb' : w.heap[b]? = some (.cells cs t (0, 0)) := hb
  rw [hb'] at q1
  simp at q1
theorem SetAt.more {B e : Nat} {W w' : World} {v v' u : Value} {xs : List Value} {b n G : Nat} {ks : List ByteArray} (h : SetAt W b n ks) (hm : MoreR B e W v xs u v' w') (ho : W.ownsRow B e 1 v xs.length xs) {cs : Array Value} {t : TypeId} (hG : Box w' G cs t) (a : Addr) (ha : a.block = G) (x : Value) : SetAt (w'.setCell a x) b n ks := by
  have h1 : SetAt w' b n ks := h.eq (hm.oth b (h.norow ho) h.lt)
  exact h1.eq (Below.heap_setCell _ a _ b (by rw [ha]; exact h1.nobox hG))

/-- How things stand: the Env under way, the set of names. -/
structure ToY (w : World) (va0 va1 vb0 vb1 : Value) (G : Nat) (M n : Nat) (ks : List ByteArray) (r0 r1 : Value) (y : Ev) (z : World) : Prop where
  tz : ToZ w va0 va1 vb0 vb1 G r0 r1 y z
  ts : SetAt z M n ks
theorem ToY.stays {w : World} {va0 va1 vb0 vb1 : Value} {G M n : Nat} {ks : List ByteArray} {r0 r1 : Value} {y : Ev} {z z' : World} (h : ToY w va0 va1 vb0 vb1 G M n ks r0 r1 y z) (hb : Below z.heap.size z z') : ToY w va0 va1 vb0 vb1 G M n ks r0 r1 y z' := ⟨h.tz.stays hb, h.ts.stays hb h.ts.lt⟩
theorem ToY.name {w : World} {va0 va1 vb0 vb1 : Value} {G M n : Nat} {ks : List ByteArray} {r0 r1 : Value} {y : Ev} {W w' : World} {s : ByteArray} {v' : Value} (h : ToY w va0 va1 vb0 vb1 G M n ks r0 r1 y W) (hm : MoreR (w.heap.size + 3) 9 W r0 (y.names.map S) (.string s) v' w') :
    ToY w va0 va1 vb0 vb1 G M n ks v' r1 ⟨y.names ++ [s], y.vals⟩ (w'.setCell ⟨G, 0, none⟩ v') := by
  have ho : W.ownsRow (w.heap.size + 3) 9 1 r0 (y.names.map S).length (y.names.map S) := by rw [List.length_map]; exact h.tz.own.o0
  exact ⟨h.tz.name hm, h.ts.more hm ho (box_more hm ho h.tz.bO (by decide)) _ rfl _⟩
theorem ToY.val {w : World} {va0 va1 vb0 vb1 : Value} {G M n : Nat} {ks : List ByteArray} {r0 r1 : Value} {y : Ev} {W w' : World} {k : Int} {v' : Value} (h : ToY w va0 va1 vb0 vb1 G M n ks r0 r1 y W) (hm : MoreR (w.heap.size + 3) 3 W r1 (y.vals.map I64) (.int .i64 k) v' w') :
    ToY w va0 va1 vb0 vb1 G M n ks r0 v' ⟨y.names, y.vals ++ [k]⟩ (w'.setCell ⟨G, 1, none⟩ v') := by
  have ho : W.ownsRow (w.heap.size + 3) 3 1 r1 (y.vals.map I64).length (y.vals.map I64) := by rw [List.length_map]; exact h.tz.own.o1
  exact ⟨h.tz.val hm, h.ts.more hm ho (box_more hm ho h.tz.bO (by decide)) _ rfl _⟩

theorem wpList_moreT {P : Program} {W : World} {ops : Array Oper} {rest : List Oper} {o : Oper} {a : Act} {Q : Exit → Act → World → Prop} (hgd : o.guard = none) (s x : Operand) (t : TypeId)
    (ho : o.op = .call { callee := .builtin .append, args := #[s, x], argTypes := #[t, t] })
    (B : Nat) (e : TypeId) (z : Value) (bytes : Nat) (ht : P.underlying t = some (.slice e)) (hi : (P.info? e).map (fun i => (i.zero, i.size, i.bytes)) = some (some z, 1, bytes)) (hzs : z.cells.size = 1)
    (v : Value) (xs : List Value) (hs : a.eval s = v) (hown : W.ownsRow B e 1 v xs.length xs) (g : Nat) (u : Value) (hx : a.eval x = .slice (some ⟨g, 0, none⟩) 1 1) (hu : W.cell? ⟨g, 0, none⟩ = some u) (h1 : u.oneCell' = true)
    (h63 : xs.length + 1 ≤ maxLen) (hbytes : (xs.length + 1) * bytes ≤ 140737488355328) (hB : B ≤ W.heap.size)
    (h : ∀ v' w', MoreR B e W v xs u v' w' → wpList P ops Q rest (a.put o.dst v') w') : wpList P ops Q (o :: rest) a W :=
  wpList_step fun _ hK => step_more hgd s x t ho B e z bytes ht hi hzs v xs hs hown g u hx hu h1 h63 hbytes hB fun v' w' hm => hK _ _ (h v' w' hm)

set_option maxRecDepth 100000 in
set_option maxHeartbeats 8000000 in
theorem envAdd_any (w : World) (va0 va1 vb0 vb1 : Value) (G M n : Nat) (ks : List ByteArray) (r0 r1 : Value) (y : Ev) (V : World) (s : ByteArray) (k : Int) (h : ToY w va0 va1 vb0 vb1 G M n ks r0 r1 y V) (hN9 : y.names.length ≤ 1048576) (hV9 : y.vals.length ≤ 1048576) :
    Calls Try.prog 46 #[.pointer (some ⟨G, 0, none⟩), .string s, .int .i64 k] V fun e w' => e = .returned (.tuple #[]) ∧ ∃ q0 q1, ToY w va0 va1 vb0 vb1 G M n ks q0 q1 ⟨y.names ++ [s], y.vals ++ [k]⟩ w' := by
  obtain ⟨p0, k0, rfl⟩ := form_own h.tz.own.o0
  obtain ⟨p1, k1, rfl⟩ := form_own h.tz.own.o1
  have ZV := hide h
  clear h
  have to0 := Lib.cell_of_heap ZV.out.tz.bO 0
  have td0 := fun o => Lib.cell_of_heap (ZV.out.tz.bO.stays ((Below.refl _ _).alloc (Nat.le_refl _) o)) 0
  simp at to0 td0
  have HG := hide fun W h => ZV.out.stays (z' := W) h
  go_enter Try.func46, Try.ntmps46
  go_upto_region 0 with fail
  go_cut [] from 3 to 26 (fun z => ∃ r, Hid (ToY w va0 va1 vb0 vb1 G M n ks r (.slice p1 y.vals.length k1) ⟨y.names ++ [s], y.vals⟩ z))
  case first =>
    go_wp2_with (at_builtin; (refine wpList_moreT rfl (.tmp 10) (.tmp 12) 22 rfl (w.heap.size + 3) 9 (.string ⟨#[]⟩) 16 Try.underlying22 Try.infoStr rfl (.slice p0 y.names.length k0) (y.names.map S) rfl ?_ V.heap.size (.string s) rfl ?_ rfl ?_ ?_ ?_ ?_; (rw [List.length_map]; exact (HG.out _ (by (first | go_grown | exact (Below.refl _ _).drew | exact ((Below.refl _ _).alloc (Nat.le_refl _) _).drew | exact (((Below.refl _ _).alloc (Nat.le_refl _) _).drew).drew | exact ((Below.refl _ _).drew.alloc (Nat.le_refl _) _) | exact ((Below.refl _ _).drew.alloc (Nat.le_refl _) _).drew))).tz.own.o0); (exact Lib.cell_of_heap (Box.made V _ _) 0); (rw [List.length_map]; unfold maxLen; omega); (rw [List.length_map]; omega); (exact Nat.le_trans (Nat.le_trans ZV.out.tz.gl (Nat.le_of_lt ZV.out.tz.bO.lt)) (Below.size (B := V.heap.size) (by (first | go_grown | exact (Below.refl _ _).drew | exact ((Below.refl _ _).alloc (Nat.le_refl _) _).drew | exact (((Below.refl _ _).alloc (Nat.le_refl _) _).drew).drew | exact ((Below.refl _ _).drew.alloc (Nat.le_refl _) _) | exact ((Below.refl _ _).drew.alloc (Nat.le_refl _) _).drew)))); intro v' w' hm; have HBX := hide (box_more hm (by rw [List.length_map]; exact (HG.out _ (by (first | go_grown | exact (Below.refl _ _).drew | exact ((Below.refl _ _).alloc (Nat.le_refl _) _).drew | exact (((Below.refl _ _).alloc (Nat.le_refl _) _).drew).drew | exact ((Below.refl _ _).drew.alloc (Nat.le_refl _) _) | exact ((Below.refl _ _).drew.alloc (Nat.le_refl _) _).drew))).tz.own.o0) (HG.out _ (by (first | go_grown | exact (Below.refl _ _).drew | exact ((Below.refl _ _).alloc (Nat.le_refl _) _).drew | exact (((Below.refl _ _).alloc (Nat.le_refl _) _).drew).drew | exact ((Below.refl _ _).drew.alloc (Nat.le_refl _) _) | exact ((Below.refl _ _).drew.alloc (Nat.le_refl _) _).drew))).tz.bO (by decide)); have sh := form_own hm.own; obtain ⟨po, co, e9⟩ := sh; subst e9; have Z9 := hide (ToY.name (HG.out _ (by (first | go_grown | exact (Below.refl _ _).drew | exact ((Below.refl _ _).alloc (Nat.le_refl _) _).drew | exact (((Below.refl _ _).alloc (Nat.le_refl _) _).drew).drew | exact ((Below.refl _ _).drew.alloc (Nat.le_refl _) _) | exact ((Below.refl _ _).drew.alloc (Nat.le_refl _) _).drew))) hm); rw [List.length_map] at Z9; have kc := (Lib.cell_of_heap HBX.out 0).trans rfl; have kf := Lib.frozen_of_heap HBX.out 0; clear hm))
    go_meet
    exact ⟨_, Z9⟩
  case rest =>
    obtain ⟨r, ZR⟩ := hcut
    obtain ⟨pr, kr, rfl⟩ := form_own ZR.out.tz.own.o0
    clear ZV HG to0 td0
    have to1 := Lib.cell_of_heap ZR.out.tz.bO 1
    have td1 := fun o => Lib.cell_of_heap (ZR.out.tz.bO.stays ((Below.refl _ _).alloc (Nat.le_refl _) o)) 1
    simp at to1 td1
    have HG := hide fun W h => ZR.out.stays (z' := W) h
    go_wp2_with (at_builtin; (refine wpList_moreT rfl (.tmp 20) (.tmp 22) 23 rfl (w.heap.size + 3) 3 (.int .i64 0) 8 Try.underlying23 Try.infoInt rfl (.slice p1 y.vals.length k1) (y.vals.map I64) rfl ?_ wc.heap.size (.int .i64 k) rfl ?_ rfl ?_ ?_ ?_ ?_; (rw [List.length_map]; exact (HG.out _ (by (first | go_grown | exact (Below.refl _ _).drew | exact ((Below.refl _ _).alloc (Nat.le_refl _) _).drew | exact (((Below.refl _ _).alloc (Nat.le_refl _) _).drew).drew | exact ((Below.refl _ _).drew.alloc (Nat.le_refl _) _) | exact ((Below.refl _ _).drew.alloc (Nat.le_refl _) _).drew))).tz.own.o1); (exact Lib.cell_of_heap (Box.made wc _ _) 0); (rw [List.length_map]; unfold maxLen; omega); (rw [List.length_map]; omega); (exact Nat.le_trans (Nat.le_trans ZR.out.tz.gl (Nat.le_of_lt ZR.out.tz.bO.lt)) (Below.size (B := wc.heap.size) (by (first | go_grown | exact (Below.refl _ _).drew | exact ((Below.refl _ _).alloc (Nat.le_refl _) _).drew | exact (((Below.refl _ _).alloc (Nat.le_refl _) _).drew).drew | exact ((Below.refl _ _).drew.alloc (Nat.le_refl _) _) | exact ((Below.refl _ _).drew.alloc (Nat.le_refl _) _).drew)))); intro v' w' hm; have HBX := hide (box_more hm (by rw [List.length_map]; exact (HG.out _ (by (first | go_grown | exact (Below.refl _ _).drew | exact ((Below.refl _ _).alloc (Nat.le_refl _) _).drew | exact (((Below.refl _ _).alloc (Nat.le_refl _) _).drew).drew | exact ((Below.refl _ _).drew.alloc (Nat.le_refl _) _) | exact ((Below.refl _ _).drew.alloc (Nat.le_refl _) _).drew))).tz.own.o1) (HG.out _ (by (first | go_grown | exact (Below.refl _ _).drew | exact ((Below.refl _ _).alloc (Nat.le_refl _) _).drew | exact (((Below.refl _ _).alloc (Nat.le_refl _) _).drew).drew | exact ((Below.refl _ _).drew.alloc (Nat.le_refl _) _) | exact ((Below.refl _ _).drew.alloc (Nat.le_refl _) _).drew))).tz.bO (by decide)); have sh := form_own hm.own; obtain ⟨po, co, e9⟩ := sh; subst e9; have Z9 := hide (ToY.val (HG.out _ (by (first | go_grown | exact (Below.refl _ _).drew | exact ((Below.refl _ _).alloc (Nat.le_refl _) _).drew | exact (((Below.refl _ _).alloc (Nat.le_refl _) _).drew).drew | exact ((Below.refl _ _).drew.alloc (Nat.le_refl _) _) | exact ((Below.refl _ _).drew.alloc (Nat.le_refl _) _).drew))) hm); rw [List.length_map] at Z9; have kc := (Lib.cell_of_heap HBX.out 1).trans rfl; have kf := Lib.frozen_of_heap HBX.out 1; clear hm))
    go_end0
    exact ⟨rfl, _, _, Z9.out⟩

theorem selE_over {a b : Ev} {i : Nat} (h : b.vals.length ≤ i) : selE a b i = selE a b b.vals.length := by
  unfold selE
  rw [List.take_of_length_le (by rw [List.length_zip]; omega), List.take_of_length_le (by rw [List.length_zip]; omega)]
theorem selE_all {a b : Ev} {i : Nat} (h : b.names.length ≤ i) : selE a b i = selE a b (min b.names.length b.vals.length) := by
  unfold selE
  rw [List.take_of_length_le (by rw [List.length_zip]; omega), List.take_of_length_le (by rw [List.length_zip]; omega)]
def ToQ (w : World) (va0 va1 vb0 vb1 : Value) (G M n : Nat) (a b : Ev) (iv : Value) (wr : World) : Prop :=
  ∃ (i : Nat) (r0 r1 : Value), i ≤ b.names.length ∧ iv = .int .i64 i ∧ Hid (ToY w va0 va1 vb0 vb1 G M n a.names r0 r1 (togTo a b i) wr)

set_option maxRecDepth 100000 in
set_option maxHeartbeats 8000000 in
theorem implTogether_any (va0 va1 vb0 vb1 : Value) (a b : Ev) (w : World) (hA : EvAt w va0 va1 a) (hB : EvAt w vb0 vb1 b) (hl : szEv a + szEv b ≤ 1048576) :
    Calls Try.prog 17 #[.agg #[va0, va1], .agg #[vb0, vb1]] w fun e w' => ∃ r0 r1, e = .returned (.agg #[r0, r1]) ∧ EvOwn w.heap.size w' r0 r1 (togE a b) ∧ Below w.heap.size w w' := by
  have hla : EvLen a := szEv_len (by omega)
  have hlb : EvLen b := szEv_len (by omega)
  have HLT : Hid (∀ i, i ≤ b.names.length → (togTo a b i).names.length ≤ 1048576 ∧ (togTo a b i).vals.length ≤ 1048576) := fun i hi => by
    have h1 := selE_len a b i
    unfold szEv szStrs at hl
    refine ⟨?_, ?_⟩
    · show (a.names ++ _).length ≤ _
      rw [List.length_append, List.length_map]
      omega
    · show (a.vals ++ _).length ≤ _
      rw [List.length_append, List.length_map]
      omega
  have HSA : Hid (∀ s ∈ a.names, s.size ≤ 1048576) := fun y hy => Nat.le_trans (szStrs_mem hy) (by unfold szEv at hl; omega)
  have HSB : Hid (∀ s ∈ b.names, s.size ≤ 1048576) := fun y hy => Nat.le_trans (szStrs_mem hy) (by unfold szEv at hl; omega)
  have HAW := hide hA
  have HBW := hide hB
  have hal := hla.l0
  have L0 := hlb.l0
  have L1 := hlb.l1
  have CC := fun z h => hide (copied_any va0 va1 a z h hla)
  have CN := fun z h => hide (namesIn_any va0 a.names z h hal HSA.out)
  obtain ⟨W1, hW⟩ : ∃ W1, ((w.alloc (.cells #[va0, va1] 27)).alloc (.cells #[vb0, vb1] 27)).alloc (.cells #[.slice none 0 0, .slice none 0 0] 27) = W1 := ⟨_, rfl⟩
  have B1 : Hid (Below w.heap.size w W1) := by rw [← hW]; show Below w.heap.size w _; go_grown
  have BA1 : Hid (Box W1 w.heap.size #[va0, va1] 27) := by rw [← hW]; exact hide (((Box.made w _ _).stays ((Below.refl _ _).alloc (Nat.le_refl _) _)).stays ((Below.refl _ _).alloc (Nat.le_refl _) _))
  have BB1 : Hid (Box W1 (w.heap.size + 1) #[vb0, vb1] 27) := by rw [← hW]; exact hide ((Box.madeAt (by simp) _ _).stays ((Below.refl _ _).alloc (Nat.le_refl _) _))
  have BR1 : Hid (Box W1 (w.heap.size + 2) #[.slice none 0 0, .slice none 0 0] 27) := by rw [← hW]; exact hide (Box.madeAt (by simp) _ _)
  have HZ1 : Hid (W1.heap.size = w.heap.size + 3) := by rw [← hW]; show _ = _; simp
  have HW := hide hW
  obtain ⟨o0, c0, rfl, _⟩ := hA.a0
  obtain ⟨o1, c1, rfl, _⟩ := hA.a1
  obtain ⟨o2, c2, rfl, _⟩ := hB.a0
  obtain ⟨o3, c3, rfl, _⟩ := hB.a1
  clear hA hB hla hlb hl hW
  have q0 := Lib.cell_of_heap BA1.out 0
  have q1 := Lib.cell_of_heap BA1.out 1
  simp at q0 q1
  rw [← HW.out] at q0 q1
  go_enter Try.func17, Try.ntmps17
  go_wp2_with fail
  rw [HW.out]
  refine (unhide (CC _ (HAW.out.stays B1.out))).mono ?_
  rintro e zc ⟨r0, r1, rfl, ho, hb⟩
  obtain ⟨p0, k0, rfl⟩ := form_own ho.o0
  obtain ⟨p1, k1, rfl⟩ := form_own ho.o1
  have hba : Below zc.heap.size zc (zc.alloc (.cells #[.slice p0 a.names.length k0, .slice p1 a.vals.length k1] 27)) := (Below.refl _ _).alloc (Nat.le_refl _) _
  have Z1 : Hid (ToZ w (.slice o0 a.names.length c0) (.slice o1 a.vals.length c1) (.slice o2 b.names.length c2) (.slice o3 b.vals.length c3) zc.heap.size (.slice p0 a.names.length k0) (.slice p1 a.vals.length k1) (togTo a b 0) (zc.alloc (.cells #[.slice p0 a.names.length k0, .slice p1 a.vals.length k1] 27))) := by
    have e0 : togTo a b 0 = a := by unfold togTo selE; simp
    rw [e0]
    exact ⟨(BA1.out.stays hb).stays hba, (BB1.out.stays hb).stays hba, ⟨_, _, (BR1.out.stays hb).stays hba⟩, Box.made _ _ _, (ho.lo (by have := HZ1.out; omega)).stays hba, (B1.out.trans (hb.mono B1.out.size)).trans (hba.mono (Nat.le_trans B1.out.size hb.size)), by have := HZ1.out; have := hb.size; omega⟩
  clear hb ho hba q0 q1
  obtain ⟨Z, hZ⟩ : ∃ Z, zc.alloc (.cells #[.slice p0 a.names.length k0, .slice p1 a.vals.length k1] 27) = Z := ⟨_, rfl⟩
  have HZ := hide hZ
  rw [hZ] at Z1
  clear hZ
  obtain ⟨G, eG⟩ : ∃ G, zc.heap.size = G := ⟨_, rfl⟩
  have EG := hide eG
  rw [eG] at Z1
  clear eG
  obtain ⟨n, en⟩ : ∃ n, b.names.length = n := ⟨_, rfl⟩
  obtain ⟨m, em⟩ : ∃ m, b.vals.length = m := ⟨_, rfl⟩
  have EN := hide en
  have EM := hide em
  have HBW2 := hide HBW.out
  rw [en] at L0 Z1 HBW2 ⊢
  rw [em] at L1 Z1 HBW2 ⊢
  clear en em
  have ta0 := Lib.cell_of_heap Z1.out.bA 0
  simp at ta0
  rw [← HZ.out] at ta0
  have HCN : Hid (StrsAt (zc.alloc (.cells #[.slice p0 a.names.length k0, .slice p1 a.vals.length k1] 27)) (.slice o0 a.names.length c0) a.names) := by
    rw [HZ.out]
    exact (HAW.out.stays Z1.out.bel).a0
  go_wp2_with (go_at_call 44; refine (unhide (CN _ HCN.out)).mono ?_; rintro e z2 ⟨rfl, hs2, hb2⟩; have ZY := hide (show ToY w _ _ _ _ G (zc.alloc (.cells #[.slice p0 a.names.length k0, .slice p1 a.vals.length k1] 27)).heap.size a.names.length a.names _ _ _ z2 from ⟨Z1.out.stays (by rw [← HZ.out]; exact hb2), hs2⟩); clear hs2 hb2; have tb0 := Lib.cell_of_heap ZY.out.tz.bB 0; simp at tb0)
  obtain ⟨M, eM⟩ : ∃ M, (zc.alloc (.cells #[.slice p0 a.names.length k0, .slice p1 a.vals.length k1] 27)).heap.size = M := ⟨_, rfl⟩
  have EM' := hide eM
  have hM : M = zc.heap.size + 1 := by rw [← eM]; simp
  rw [← hM]
  rw [eM] at ZY
  clear eM hM
  rw [EG.out]
  go_loopw [17] (fun iv wr => ToQ w (.slice o0 a.names.length c0) (.slice o1 a.vals.length c1) (.slice o2 n c2) (.slice o3 m c3) G M a.names.length a b iv wr) (fun iv _ => n - (intOf iv).toNat)
  case atStart => exact ⟨0, _, _, by omega, rfl, ZY.out⟩
  case round =>
    clear Z1 ZY HCN ta0 tb0 CC CN
    obtain ⟨i, r0, r1, hi, rfl, Z⟩ := hrel
    rw [EN.out] at hi
    obtain ⟨p0, k0, rfl⟩ := form_own Z.out.tz.own.o0
    obtain ⟨p1, k1, rfl⟩ := form_own Z.out.tz.own.o1
    have HLI := HLT.out i (by rw [EN.out]; exact hi)
    have HFIN : Hid (n ≤ i → togTo a b i = togE a b) := fun hd => by
      unfold togE togTo
      rw [selE_all (by rw [EN.out]; exact hd)]
    obtain ⟨y, ey⟩ : ∃ y, togTo a b i = y := ⟨_, rfl⟩
    have EY := hide ey
    rw [ey] at Z HLI HFIN
    have hN9 := HLI.1
    have hV9 := HLI.2
    clear ey HLI
    have tb1 := Lib.cell_of_heap Z.out.tz.bB 1
    have to0 := Lib.cell_of_heap Z.out.tz.bO 0
    have to1 := Lib.cell_of_heap Z.out.tz.bO 1
    obtain ⟨ra, rb, hrr⟩ := Z.out.tz.bR
    have tr0 := Lib.cell_of_heap hrr 0
    have tr1 := Lib.cell_of_heap hrr 1
    have fr0 := Lib.frozen_of_heap hrr 0
    have fr1 := Lib.frozen_of_heap hrr 1
    simp at tb1 to0 to1 tr0 tr1
    clear hrr
    by_cases hlt : i < n
    · have hlt' : (i : Int) < (n : Int) := by omega
      have hi0 : (0 : Int) ≤ (i : Int) := by omega
      have hin : i < b.names.length := by rw [EN.out]; exact hlt
      obtain ⟨ao', c', e1, hc1⟩ := (HBW2.out.stays Z.out.tz.bel).a0
      injection e1 with e2 e3 e4
      subst e2
      obtain ⟨an, rfl, han, hx⟩ := hc1 i hin
      have hss := HSB.out _ (List.getElem_mem hin)
      have HYES := hide fun him h => selE_yes (a := a) hin him h
      have HNO := hide fun him h => selE_no (a := a) hin him h
      obtain ⟨s, es⟩ : ∃ s, b.names[i] = s := ⟨_, rfl⟩
      rw [es] at hx HYES HNO hss
      have HSS := hide hss
      have CH := hide (setHas_any M a.names.length a.names s wr Z.out.ts hss)
      clear hc1 e3 e4 es HFIN tr0 tr1 fr0 fr1 hss
      by_cases hlm : i < m
      · have hlm' : (i : Int) < (m : Int) := by omega
        have him : i < b.vals.length := by rw [EM.out]; exact hlm
        obtain ⟨ao', c', e5, hc2⟩ := (HBW2.out.stays Z.out.tz.bel).a1
        injection e5 with e6 e7 e8
        subst e6
        obtain ⟨av, rfl, hav, hk⟩ := hc2 i him
        have HYES' := hide fun h => HYES.out him h
        have HNO' := hide fun h => HNO.out him h
        obtain ⟨k, ek⟩ : ∃ k, b.vals[i] = k := ⟨_, rfl⟩
        have EK := hide ek
        rw [ek] at hk HYES'
        clear e7 e8 ek HYES HNO
        have HC2 := hide hc2
        clear hc2
        obtain ⟨q, eq⟩ : ∃ q, memB a.names s = q := ⟨_, rfl⟩
        rw [eq] at CH
        cases q with
        | true =>
          have HSEL := hide (HNO'.out eq)
          clear eq HYES' HNO'
          go_wp2_with (go_at_call 45; refine (unhide CH).mono ?_; rintro e z3 ⟨rfl, hb3⟩; have Z3 := hide (Z.out.stays hb3); clear hb3)
          go_roundw
          case rel =>
            refine ⟨i + 1, .slice p0 y.names.length k0, .slice p1 y.vals.length k1, by rw [EN.out]; omega, by go_num, ?_⟩
            have e1 : togTo a b (i + 1) = y := by
              rw [← EY.out]
              unfold togTo
              rw [HSEL.out]
            rw [e1]
            exact Z3
          case measure => simp [intOf]; omega
        | false =>
          have HTN : Hid (togTo a b (i + 1) = ⟨y.names ++ [s], y.vals ++ [k]⟩) := by
            have h9 := HYES'.out eq
            rw [← EY.out]
            show togTo a b (i + 1) = _
            unfold togTo
            rw [h9]
            simp
          clear eq HYES' HNO'
          have CA := fun z h => hide (envAdd_any w (.slice o0 a.names.length c0) (.slice o1 a.vals.length c1) (.slice (some an) n c2) (.slice (some av) m c3) G M a.names.length a.names (.slice p0 y.names.length k0) (.slice p1 y.vals.length k1) y z s k h hN9 hV9)
          have HKK : Hid (∀ z, Below wr.heap.size wr z → z.cell? (av.add i) = some (.int .i64 k)) := fun z hb => (hb.cell (p := av.add i) (by rw [block_add]; exact hav)).trans hk
          go_wp2_with (first
            | (go_at_call 45; refine (unhide CH).mono ?_; rintro e z3 ⟨rfl, hb3⟩; have Z3 := hide (Z.out.stays hb3); have hk3 := HKK.out _ hb3; clear hb3; have tc1 := Lib.cell_of_heap Z3.out.tz.bB 1; simp at tc1)
            | (go_at_call 46; refine (unhide (CA _ Z3.out)).mono ?_; rintro e z4 ⟨rfl, q0, q1, hz4⟩; have Z4 := hide hz4; clear hz4))
          go_roundw
          case rel => exact ⟨i + 1, _, _, by rw [EN.out]; omega, by go_num, by rw [HTN.out]; exact Z4⟩
          case measure => simp [intOf]; omega
      · have hlm' : ¬ (i : Int) < (m : Int) := by omega
        have HSEL : Hid (togTo a b (i + 1) = y) := by
          rw [← EY.out]
          show togTo a b (i + 1) = _
          unfold togTo
          rw [selE_over (i := i + 1) (by rw [EM.out]; omega), selE_over (i := i) (by rw [EM.out]; omega)]
        clear HYES HNO
        go_wp2
        go_roundw
        case rel => exact ⟨i + 1, _, _, by rw [EN.out]; omega, by go_num, by rw [HSEL.out]; exact Z⟩
        case measure => simp [intOf]; omega
    · have hlt' : ¬ (i : Int) < (n : Int) := by omega
      have HPE := hide (HFIN.out (by omega))
      go_wp2
      refine box_ret (g := w.heap.size + 2) (t := 27) (cs := #[.slice p0 y.names.length k0, .slice p1 y.vals.length k1]) rfl rfl ?_ _ Try.underlying27 rfl (by kernel_rfl) rfl ?_
      · exact Z.out.tz.fin.1
      · exact ⟨_, _, rfl, by rw [← HPE.out]; exact Z.out.tz.fin.2.1, Z.out.tz.fin.2.2⟩
end Go.Proofs.Ytmckcbgdkjbpfaa

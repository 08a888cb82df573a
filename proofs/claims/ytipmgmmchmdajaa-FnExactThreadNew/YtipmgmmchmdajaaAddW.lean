/-
  Walks: a name more in an Env in a box, by the program; a new thread.
-/
import Derived.Test.YtipmgmmchmdajaaThrN
import Derived.Test.YtipmgmmchmdajaaLwHc
namespace Go.Proofs.Ytipmgmmchmdajaa
open Go.RowKit

/-- An Env in a box, its rows and the box from a base on. -/
structure AdZ (B G : Nat) (V : World) (r0 r1 : Value) (y : Ev) (z : World) : Prop where
  box : Box z G #[r0, r1] 32
  own : EvOwn B z r0 r1 y
  bel : Below B V z
  le : B ≤ G
theorem AdZ.stays {B G : Nat} {V : World} {r0 r1 : Value} {y : Ev} {z z' : World} (h : AdZ B G V r0 r1 y z) (hb : Below z.heap.size z z') : AdZ B G V r0 r1 y z' := ⟨h.box.stays hb, h.own.stays hb, h.bel.trans (hb.mono (Nat.le_trans h.le (Nat.le_of_lt h.box.lt))), h.le⟩
theorem AdZ.name {B G : Nat} {V : World} {r0 r1 : Value} {y : Ev} {W w' : World} {s : ByteArray} {v' : Value} (h : AdZ B G V r0 r1 y W) (hm : MoreR B 9 W r0 (y.names.map S) (.string s) v' w') :
    AdZ B G V v' r1 ⟨y.names ++ [s], y.vals⟩ (w'.setCell ⟨G, 0, none⟩ v') := by
  have ho : W.ownsRow B 9 1 r0 (y.names.map S).length (y.names.map S) := by rw [List.length_map]; exact h.own.o0
  have hG := box_more hm ho h.box (by decide)
  have e1 : EvOwn B w' v' r1 ⟨y.names ++ [s], y.vals⟩ := by
    refine ⟨?_, owns_eq h.own.o1 fun g hg => hm.oth g (fun e => h.own.ap g e hg) (h.own.o1.lt g hg).2, fun i hi hi1 => ?_⟩
    · have := hm.own
      rw [List.length_map] at this
      show World.ownsRow _ _ _ _ _ (y.names ++ [s]).length ((y.names ++ [s]).map S)
      rw [List.length_append, List.map_append]
      exact this
    · rcases hm.pos with e | e
      · exact h.own.ap i (by rw [← e]; exact hi) hi1
      · rw [hi] at e
        injection e with e
        have := (h.own.o1.lt i hi1).2
        omega
  refine ⟨?_, e1.boxed hG (by decide) (by decide) _, (h.bel.trans hm.bel).setCell (p := ⟨G, 0, none⟩) h.le _, h.le⟩
  have := hG.set 0 v'
  rw [set_fst] at this
  exact this
theorem AdZ.val {B G : Nat} {V : World} {r0 r1 : Value} {y : Ev} {W w' : World} {k : Int} {v' : Value} (h : AdZ B G V r0 r1 y W) (hm : MoreR B 3 W r1 (y.vals.map I64) (.int .i64 k) v' w') :
    AdZ B G V r0 v' ⟨y.names, y.vals ++ [k]⟩ (w'.setCell ⟨G, 1, none⟩ v') := by
  have ho : W.ownsRow B 3 1 r1 (y.vals.map I64).length (y.vals.map I64) := by rw [List.length_map]; exact h.own.o1
  have hG := box_more hm ho h.box (by decide)
  have e1 : EvOwn B w' r0 v' ⟨y.names, y.vals ++ [k]⟩ := by
    refine ⟨owns_eq h.own.o0 fun g hg => hm.oth g (h.own.ap g hg) (h.own.o0.lt g hg).2, ?_, fun i hi hi1 => ?_⟩
    · have := hm.own
      rw [List.length_map] at this
      show World.ownsRow _ _ _ _ _ (y.vals ++ [k]).length ((y.vals ++ [k]).map I64)
      rw [List.length_append, List.map_append]
      exact this
    · rcases hm.pos with e | e
      · exact h.own.ap i hi (by rw [← e]; exact hi1)
      · rw [hi1] at e
        injection e with e
        have := (h.own.o0.lt i hi).2
        omega
  refine ⟨?_, e1.boxed hG (by decide) (by decide) _, (h.bel.trans hm.bel).setCell (p := ⟨G, 1, none⟩) h.le _, h.le⟩
  have := hG.set 1 v'
  rw [set_snd] at this
  exact this

set_option maxRecDepth 100000 in
set_option maxHeartbeats 8000000 in
theorem addB_any (B G : Nat) (V0 : World) (r0 r1 : Value) (y : Ev) (V : World) (s : ByteArray) (k : Int) (h : AdZ B G V0 r0 r1 y V) (hN9 : y.names.length ≤ 1048576) (hV9 : y.vals.length ≤ 1048576) :
    Calls Try.prog 31 #[.pointer (some ⟨G, 0, none⟩), .string s, .int .i64 k] V fun e w' => e = .returned (.tuple #[]) ∧ ∃ q0 q1, AdZ B G V0 q0 q1 ⟨y.names ++ [s], y.vals ++ [k]⟩ w' := by
  obtain ⟨p0, k0, rfl⟩ := form_own h.own.o0
  obtain ⟨p1, k1, rfl⟩ := form_own h.own.o1
  have ZV := hide h
  clear h
  have to0 := Lib.cell_of_heap ZV.out.box 0
  have td0 := fun o => Lib.cell_of_heap (ZV.out.box.stays ((Below.refl _ _).alloc (Nat.le_refl _) o)) 0
  simp at to0 td0
  have HG := hide fun W h => ZV.out.stays (z' := W) h
  go_enter Try.func31, Try.ntmps31
  go_upto_region 0 with fail
  go_cut [] from 3 to 26 (fun z => ∃ r, Hid (AdZ B G V0 r (.slice p1 y.vals.length k1) ⟨y.names ++ [s], y.vals⟩ z))
  case first =>
    go_wp2_with (at_builtin; (refine wpList_moreH rfl (.tmp 10) (.tmp 12) 27 rfl B 9 (.string ⟨#[]⟩) 16 Try.underlying27 Try.infoStr rfl (.slice p0 y.names.length k0) (y.names.map S) rfl ?_ V.heap.size (.string s) rfl ?_ rfl ?_ ?_ ?_ ?_; (rw [List.length_map]; exact (HG.out _ (by (first | go_grown | exact (Below.refl _ _).drew | exact ((Below.refl _ _).alloc (Nat.le_refl _) _).drew | exact (((Below.refl _ _).alloc (Nat.le_refl _) _).drew).drew | exact ((Below.refl _ _).drew.alloc (Nat.le_refl _) _) | exact ((Below.refl _ _).drew.alloc (Nat.le_refl _) _).drew))).own.o0); (exact Lib.cell_of_heap (Box.made V _ _) 0); (rw [List.length_map]; unfold maxLen; omega); (rw [List.length_map]; omega); (exact Nat.le_trans (Nat.le_trans ZV.out.le (Nat.le_of_lt ZV.out.box.lt)) (Below.size (B := V.heap.size) (by (first | go_grown | exact (Below.refl _ _).drew | exact ((Below.refl _ _).alloc (Nat.le_refl _) _).drew | exact (((Below.refl _ _).alloc (Nat.le_refl _) _).drew).drew | exact ((Below.refl _ _).drew.alloc (Nat.le_refl _) _) | exact ((Below.refl _ _).drew.alloc (Nat.le_refl _) _).drew)))); intro v' w' hm; have HBX := hide (box_more hm (by rw [List.length_map]; exact (HG.out _ (by (first | go_grown | exact (Below.refl _ _).drew | exact ((Below.refl _ _).alloc (Nat.le_refl _) _).drew | exact (((Below.refl _ _).alloc (Nat.le_refl _) _).drew).drew | exact ((Below.refl _ _).drew.alloc (Nat.le_refl _) _) | exact ((Below.refl _ _).drew.alloc (Nat.le_refl _) _).drew))).own.o0) (HG.out _ (by (first | go_grown | exact (Below.refl _ _).drew | exact ((Below.refl _ _).alloc (Nat.le_refl _) _).drew | exact (((Below.refl _ _).alloc (Nat.le_refl _) _).drew).drew | exact ((Below.refl _ _).drew.alloc (Nat.le_refl _) _) | exact ((Below.refl _ _).drew.alloc (Nat.le_refl _) _).drew))).box (by decide)); have sh := form_own hm.own; obtain ⟨po, co, e9⟩ := sh; subst e9; have Z9 := hide (AdZ.name (HG.out _ (by (first | go_grown | exact (Below.refl _ _).drew | exact ((Below.refl _ _).alloc (Nat.le_refl _) _).drew | exact (((Below.refl _ _).alloc (Nat.le_refl _) _).drew).drew | exact ((Below.refl _ _).drew.alloc (Nat.le_refl _) _) | exact ((Below.refl _ _).drew.alloc (Nat.le_refl _) _).drew))) hm); rw [List.length_map] at Z9; have kc := (Lib.cell_of_heap HBX.out 0).trans rfl; have kf := Lib.frozen_of_heap HBX.out 0; clear hm))
    go_meet
    exact ⟨_, Z9⟩
  case rest =>
    obtain ⟨r, ZR⟩ := hcut
    obtain ⟨pr, kr, rfl⟩ := form_own ZR.out.own.o0
    clear ZV HG to0 td0
    have to1 := Lib.cell_of_heap ZR.out.box 1
    have td1 := fun o => Lib.cell_of_heap (ZR.out.box.stays ((Below.refl _ _).alloc (Nat.le_refl _) o)) 1
    simp at to1 td1
    have HG := hide fun W h => ZR.out.stays (z' := W) h
    go_wp2_with (at_builtin; (refine wpList_moreH rfl (.tmp 20) (.tmp 22) 30 rfl B 3 (.int .i64 0) 8 Try.underlying30 Try.infoInt rfl (.slice p1 y.vals.length k1) (y.vals.map I64) rfl ?_ wc.heap.size (.int .i64 k) rfl ?_ rfl ?_ ?_ ?_ ?_; (rw [List.length_map]; exact (HG.out _ (by (first | go_grown | exact (Below.refl _ _).drew | exact ((Below.refl _ _).alloc (Nat.le_refl _) _).drew | exact (((Below.refl _ _).alloc (Nat.le_refl _) _).drew).drew | exact ((Below.refl _ _).drew.alloc (Nat.le_refl _) _) | exact ((Below.refl _ _).drew.alloc (Nat.le_refl _) _).drew))).own.o1); (exact Lib.cell_of_heap (Box.made wc _ _) 0); (rw [List.length_map]; unfold maxLen; omega); (rw [List.length_map]; omega); (exact Nat.le_trans (Nat.le_trans ZR.out.le (Nat.le_of_lt ZR.out.box.lt)) (Below.size (B := wc.heap.size) (by (first | go_grown | exact (Below.refl _ _).drew | exact ((Below.refl _ _).alloc (Nat.le_refl _) _).drew | exact (((Below.refl _ _).alloc (Nat.le_refl _) _).drew).drew | exact ((Below.refl _ _).drew.alloc (Nat.le_refl _) _) | exact ((Below.refl _ _).drew.alloc (Nat.le_refl _) _).drew)))); intro v' w' hm; have HBX := hide (box_more hm (by rw [List.length_map]; exact (HG.out _ (by (first | go_grown | exact (Below.refl _ _).drew | exact ((Below.refl _ _).alloc (Nat.le_refl _) _).drew | exact (((Below.refl _ _).alloc (Nat.le_refl _) _).drew).drew | exact ((Below.refl _ _).drew.alloc (Nat.le_refl _) _) | exact ((Below.refl _ _).drew.alloc (Nat.le_refl _) _).drew))).own.o1) (HG.out _ (by (first | go_grown | exact (Below.refl _ _).drew | exact ((Below.refl _ _).alloc (Nat.le_refl _) _).drew | exact (((Below.refl _ _).alloc (Nat.le_refl _) _).drew).drew | exact ((Below.refl _ _).drew.alloc (Nat.le_refl _) _) | exact ((Below.refl _ _).drew.alloc (Nat.le_refl _) _).drew))).box (by decide)); have sh := form_own hm.own; obtain ⟨po, co, e9⟩ := sh; subst e9; have Z9 := hide (AdZ.val (HG.out _ (by (first | go_grown | exact (Below.refl _ _).drew | exact ((Below.refl _ _).alloc (Nat.le_refl _) _).drew | exact (((Below.refl _ _).alloc (Nat.le_refl _) _).drew).drew | exact ((Below.refl _ _).drew.alloc (Nat.le_refl _) _) | exact ((Below.refl _ _).drew.alloc (Nat.le_refl _) _).drew))) hm); rw [List.length_map] at Z9; have kc := (Lib.cell_of_heap HBX.out 1).trans rfl; have kf := Lib.frozen_of_heap HBX.out 1; clear hm))
    go_end0
    exact ⟨rfl, _, _, Z9.out⟩

/-- The names so far. -/
def envTo (names : List ByteArray) (i : Nat) : Ev := ⟨names.take i, (names.take i).map fun _ => 0⟩
theorem envTo_step {names : List ByteArray} {i : Nat} (h : i < names.length) : envTo names (i + 1) = ⟨(envTo names i).names ++ [names[i]], (envTo names i).vals ++ [0]⟩ := by
  unfold envTo
  rw [List.take_succ_eq_append_getElem h, List.map_append]
  rfl
def TnQ (B G : Nat) (V : World) (names : List ByteArray) (iv : Value) (z : World) : Prop := ∃ (i : Nat) (r0 r1 : Value), i ≤ names.length ∧ iv = .int .i64 (i : Int) ∧ Hid (AdZ B G V r0 r1 (envTo names i) z)

set_option maxRecDepth 100000 in
set_option maxHeartbeats 4000000 in
theorem implThreadNew_any (nv mv pv vn : Value) (body : Int) (names : List ByteArray) (w : World) (hN : StrsAt w vn names) (hl : names.length ≤ 1048576) :
    Calls Try.prog 11 #[.agg #[nv, mv, pv], .int .i64 body, vn] w fun e w' => ∃ r0 r1 r2, e = .returned (.agg #[r0, r1, r2, .int .i64 (threadE body names).fault]) ∧ TrOwn w.heap.size w' r0 r1 r2 (threadE body names) ∧ Below w.heap.size w w' := by
  have HN := hide hN
  obtain ⟨o, c, rfl, _⟩ := hN
  obtain ⟨W1, hW⟩ : ∃ W1, ((w.alloc (.cells #[nv, mv, pv] 40)).alloc (.cells #[.slice none 0 0, .slice none 0 0, .slice none 0 0, .int .i64 0] 34)).alloc (.cells #[.slice none 0 0, .slice none 0 0] 32) = W1 := ⟨_, rfl⟩
  have B1 : Hid (Below w.heap.size w W1) := by rw [← hW]; show Below w.heap.size w _; go_grown
  have BR1 : Hid (Box W1 (w.heap.size + 1) #[.slice none 0 0, .slice none 0 0, .slice none 0 0, .int .i64 0] 34) := by rw [← hW]; exact hide ((Box.madeAt (by simp) _ _).stays ((Below.refl _ _).alloc (Nat.le_refl _) _))
  have Z1 : Hid (AdZ (w.heap.size + 2) (w.heap.size + 2) W1 (.slice none 0 0) (.slice none 0 0) (envTo names 0) W1) := by
    rw [← hW]
    exact hide ⟨Box.madeAt (by simp) _ _, ⟨⟨by simp [envTo], .inl ⟨rfl, rfl⟩⟩, ⟨by simp [envTo], .inl ⟨rfl, rfl⟩⟩, fun i h => by cases h⟩, Below.refl _ _, Nat.le_refl _⟩
  have HW := hide hW
  clear hW
  obtain ⟨n, en⟩ : ∃ n, names.length = n := ⟨_, rfl⟩
  have EN := hide en
  rw [en] at hl ⊢
  clear en
  go_enter Try.func11, Try.ntmps11
  go_wp2_with fail
  rw [HW.out]
  go_loopw [13] (fun iv z => TnQ (w.heap.size + 2) (w.heap.size + 2) W1 names iv z) (fun iv _ => n - (intOf iv).toNat)
  case atStart => exact ⟨0, _, _, by omega, rfl, Z1⟩
  case round =>
    clear Z1 HW
    obtain ⟨i, r0, r1, hi, rfl, Z⟩ := hrel
    rw [EN.out] at hi
    have LA : (envTo names i).names.length ≤ 1048576 := by show (names.take i).length ≤ _; rw [List.length_take]; omega
    have LB : (envTo names i).vals.length ≤ 1048576 := by show ((names.take i).map _).length ≤ _; rw [List.length_map, List.length_take]; omega
    have BW : Hid (Below w.heap.size w wr) := B1.out.trans (Z.out.bel.mono (by omega))
    by_cases hlt : i < n
    · have hlt' : (i : Int) < (n : Int) := by omega
      have hi0 : (0 : Int) ≤ (i : Int) := by omega
      have hin : i < names.length := by rw [EN.out]; exact hlt
      obtain ⟨o', c', e1, hc1⟩ := HN.out.stays BW.out
      injection e1 with e2 e3 e4
      subst e2
      obtain ⟨a, rfl, ha, hx⟩ := hc1 i hin
      have ET := hide (envTo_step hin)
      obtain ⟨s, es⟩ : ∃ s, names[i] = s := ⟨_, rfl⟩
      rw [es] at hx ET
      clear hc1 e3 e4 es
      have CA := hide (addB_any (w.heap.size + 2) (w.heap.size + 2) W1 r0 r1 (envTo names i) wr s 0 Z.out LA LB)
      clear LA LB
      go_wp2_with (go_at_call 31; refine (unhide CA).mono ?_; rintro e z ⟨rfl, q0, q1, hz⟩; have Z2 := hide hz; rw [← ET.out] at Z2; clear hz)
      go_roundw
      case rel => exact ⟨i + 1, _, _, by rw [EN.out]; omega, by go_num, Z2⟩
      case measure => simp [intOf]; omega
    · have hlt' : ¬ (i : Int) < (n : Int) := by omega
      obtain rfl : i = n := by omega
      have ET : Hid (envTo names i = ⟨names, names.map fun _ => 0⟩) := by
        show _ = _
        unfold envTo
        rw [List.take_of_length_le (by rw [EN.out]; omega)]
      obtain ⟨p0, k0, rfl⟩ := form_own Z.out.own.o0
      obtain ⟨p1, k1, rfl⟩ := form_own Z.out.own.o1
      have hba : Below wr.heap.size wr (wr.alloc (.cells #[.int .i64 body] 3)) := (Below.refl _ _).alloc (Nat.le_refl _) _
      have hgt : w.heap.size + 2 < wr.heap.size := Z.out.box.lt
      have ZP : Hid (PaZ w (.slice (some ⟨wr.heap.size, 0, none⟩) 1 1) (.slice p0 (envTo names i).names.length k0) (.slice p1 (envTo names i).vals.length k1) (threadE body names) (wr.alloc (.cells #[.int .i64 body] 3))) := by
        have ho := Z.out.own.stays hba
        have hbr : Box wr (w.heap.size + 1) #[.slice none 0 0, .slice none 0 0, .slice none 0 0, .int .i64 0] 34 := (Z.out.bel.block _ (by omega)).trans BR1.out
        refine hide ⟨⟨_, _, _, _, hbr.stays hba⟩, ⟨⟨rfl, .inr ⟨wr.heap.size, 1, #[.int .i64 body], rfl, by omega, heap_alloc_new wr _, Nat.le_refl _, by unfold maxLen; omega, rfl, rfl⟩⟩, ?_, ?_, fun j hj hj2 => ?_⟩, BW.out.trans (hba.mono BW.out.size)⟩
        · have := ho.o0
          rw [ET.out] at this ⊢
          exact this
        · have := ho.o1
          rw [ET.out] at this ⊢
          exact this
        · injection hj with hj
          have hj' : wr.heap.size = j := hj
          subst hj'
          have := (Z.out.own.o1.lt _ hj2).2
          omega
      obtain ⟨ra, rb, rc, rd, hrr⟩ := ZP.out.bR
      have s0 := Lib.cell_of_heap hrr 0
      have s1 := Lib.cell_of_heap hrr 1
      have s2 := Lib.cell_of_heap hrr 2
      have s3 := Lib.cell_of_heap hrr 3
      have f0 := Lib.frozen_of_heap hrr 0
      have f1 := Lib.frozen_of_heap hrr 1
      have f2 := Lib.frozen_of_heap hrr 2
      have f3 := Lib.frozen_of_heap hrr 3
      have t0 := Lib.cell_of_heap (Z.out.box.stays hba) 0
      have t1 := Lib.cell_of_heap (Z.out.box.stays hba) 1
      simp at s0 s1 s2 s3 t0 t1
      clear hrr hba
      obtain ⟨W, eW, hB, hO, hF⟩ := ZP.out.fin
      have HR := hide (And.intro hB (And.intro hO hF))
      have EW := hide eW
      obtain ⟨la, ela⟩ : ∃ l, (envTo names i).names.length = l := ⟨_, rfl⟩
      obtain ⟨lb, elb⟩ : ∃ l, (envTo names i).vals.length = l := ⟨_, rfl⟩
      rw [ela] at t0 HR EW
      rw [elb] at t1 HR EW
      clear hB hO hF eW LA LB ela elb ZP Z hgt
      have e9 := EW.out
      clear EW
      rw [show (threadE body names).fault = 0 from rfl] at e9
      have E9 := hide e9
      clear e9
      go_wp2
      rw [E9.out]
      refine box_ret (g := w.heap.size + 1) (t := 34) (cs := #[.slice (some ⟨wr.heap.size, 0, none⟩) 1 1, .slice p0 la k0, .slice p1 lb k1, .int .i64 (threadE body names).fault]) rfl rfl ?_ _ Try.underlying34 rfl (by kernel_rfl) rfl ?_
      · exact HR.out.1
      · exact ⟨_, _, _, rfl, HR.out.2.1, HR.out.2.2⟩

theorem lawThreadNew_whole (nv mv pv vn : Value) (x0 : Pg) (n1 : Int) (x2 : Rw) (w : World) (h0 : PgAt w nv mv pv x0) (m0 : PgMax x0) (h2 : RwAt w vn x2) (m2 : RwMax x2) :
    Calls Try.prog 3 #[.agg #[nv, mv, pv], .int .i64 n1, vn] w fun e w' => e = .returned (.bool true) ∧ Below w.heap.size w w' :=
  lawThreadNew nv mv pv vn x0 n1 x2 w h0 m0 h2 m2
    (fun hl a b c d z _ _ hc hk => specThreadNew_any a b c d x0 n1 x2.row z hc.at hk.at.a0 (szRw_len (by omega)).l0)
    (fun hl a b c d z _ _ hc hk => implThreadNew_any a b c d n1 x2.row z hk.at.a0 (szRw_len (by omega)).l0)
    (fun hl => threadE_len n1 (szRw_len (by omega)).l0)
end Go.Proofs.Ytipmgmmchmdajaa

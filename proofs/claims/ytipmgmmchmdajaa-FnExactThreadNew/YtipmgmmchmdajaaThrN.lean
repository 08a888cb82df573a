/-
  Walks: a new thread, by the specification.
-/
import Derived.Test.YtipmgmmchmdajaaThrW
import Derived.Test.YtipmgmmchmdajaaLawK
import Derived.Test.YtipmgmmchmdajaaEnvT
import Derived.Deep.CutRange
import Derived.Deep.RegionLaw
namespace Go.Proofs.Ytipmgmmchmdajaa
open Go.RowKit

/-- A new thread. -/
def threadE (body : Int) (names : List ByteArray) : Tr := ⟨[body], names, names.map fun _ => 0, 0⟩
theorem threadE_len {names : List ByteArray} (body : Int) (h : names.length ≤ 1048576) : TrLen (threadE body names) := ⟨by show 1 ≤ _; omega, h, by show (names.map _).length ≤ _; rw [List.length_map]; exact h⟩
theorem wpList_moreH {P : Program} {W : World} {ops : Array Oper} {rest : List Oper} {o : Oper} {a : Act} {Q : Exit → Act → World → Prop} (hgd : o.guard = none) (s x : Operand) (t : TypeId)
    (ho : o.op = .call { callee := .builtin .append, args := #[s, x], argTypes := #[t, t] })
    (B : Nat) (e : TypeId) (z : Value) (bytes : Nat) (ht : P.underlying t = some (.slice e)) (hi : (P.info? e).map (fun i => (i.zero, i.size, i.bytes)) = some (some z, 1, bytes)) (hzs : z.cells.size = 1)
    (v : Value) (xs : List Value) (hs : a.eval s = v) (hown : W.ownsRow B e 1 v xs.length xs) (g : Nat) (u : Value) (hx : a.eval x = .slice (some ⟨g, 0, none⟩) 1 1) (hu : W.cell? ⟨g, 0, none⟩ = some u) (h1 : u.oneCell' = true)
    (h63 : xs.length + 1 ≤ maxLen) (hbytes : (xs.length + 1) * bytes ≤ 140737488355328) (hB : B ≤ W.heap.size)
    (h : ∀ v' w', MoreR B e W v xs u v' w' → wpList P ops Q rest (a.put o.dst v') w') : wpList P ops Q (o :: rest) a W :=
  wpList_step fun _ hK => step_more hgd s x t ho B e z bytes ht hi hzs v xs hs hown g u hx hu h1 h63 hbytes hB fun v' w' hm => hK _ _ (h v' w' hm)
/-- While a thread is made: the result, the thread under way at G. -/
structure TnZ (w : World) (G : Nat) (r0 r1 r2 : Value) (y : Tr) (z : World) : Prop where
  bR : ∃ a b c d, Box z (w.heap.size + 1) #[a, b, c, d] 34
  bO : Box z G #[r0, r1, r2, .int .i64 y.fault] 34
  own : TrOwn (w.heap.size + 2) z r0 r1 r2 y
  bel : Below w.heap.size w z
  gl : w.heap.size + 2 ≤ G
theorem TnZ.stays {w : World} {G : Nat} {r0 r1 r2 : Value} {y : Tr} {z z' : World} (h : TnZ w G r0 r1 r2 y z) (hb : Below z.heap.size z z') : TnZ w G r0 r1 r2 y z' := by
  obtain ⟨a, b, c, d, hr⟩ := h.bR
  exact ⟨⟨a, b, c, d, hr.stays hb⟩, h.bO.stays hb, h.own.stays hb, h.bel.trans (hb.mono h.bel.size), h.gl⟩
theorem set4_1 (a b c d v : Value) : (#[a, b, c, d] : Array Value).setIfInBounds 1 v = #[a, v, c, d] := rfl
theorem set4_2 (a b c d v : Value) : (#[a, b, c, d] : Array Value).setIfInBounds 2 v = #[a, b, v, d] := rfl
/-- A name more. -/
theorem TnZ.name {w : World} {G : Nat} {r0 r1 r2 : Value} {y : Tr} {W w' : World} {s : ByteArray} {v' : Value} (h : TnZ w G r0 r1 r2 y W) (hm : MoreR (w.heap.size + 2) 9 W r1 (y.names.map S) (.string s) v' w') :
    TnZ w G r0 v' r2 { y with names := y.names ++ [s] } (w'.setCell ⟨G, 1, none⟩ v') := by
  have ho : W.ownsRow (w.heap.size + 2) 9 1 r1 (y.names.map S).length (y.names.map S) := by rw [List.length_map]; exact h.own.o1
  have hG := box_more hm ho h.bO (by decide)
  have hgl := h.gl
  have ne1 : ∀ {v : Value} {xs : List Value} {n : Nat}, W.ownsRow (w.heap.size + 2) 3 1 v n xs → w'.ownsRow (w.heap.size + 2) 3 1 v n xs := fun {v xs n} hv => owns_eq hv fun g hg => hm.oth g (ty_apart hv ho (by decide) g hg) (hv.lt g hg).2
  have e1 : TrOwn (w.heap.size + 2) w' r0 v' r2 { y with names := y.names ++ [s] } := by
    refine ⟨ne1 h.own.o0, ?_, ne1 h.own.o2, h.own.ap⟩
    have := hm.own
    rw [List.length_map] at this
    show World.ownsRow _ _ _ _ _ (y.names ++ [s]).length ((y.names ++ [s]).map S)
    rw [List.length_append, List.map_append]
    exact this
  obtain ⟨a, b, c, d, hr⟩ := h.bR
  refine ⟨⟨a, b, c, d, (box_more hm ho hr (by decide)).other _ _ (by show w.heap.size + 1 ≠ G; omega)⟩, ?_, e1.boxed hG (by decide) (by decide) _, (h.bel.trans (hm.bel.mono (by omega))).setCell (p := ⟨G, 1, none⟩) (by show w.heap.size ≤ G; omega) _, hgl⟩
  have := hG.set 1 v'
  rw [set4_1] at this
  exact this
/-- A value more. -/
theorem TnZ.val {w : World} {G : Nat} {r0 r1 r2 : Value} {y : Tr} {W w' : World} {k : Int} {v' : Value} (h : TnZ w G r0 r1 r2 y W) (hm : MoreR (w.heap.size + 2) 3 W r2 (y.vals.map I64) (.int .i64 k) v' w') :
    TnZ w G r0 r1 v' { y with vals := y.vals ++ [k] } (w'.setCell ⟨G, 2, none⟩ v') := by
  have ho : W.ownsRow (w.heap.size + 2) 3 1 r2 (y.vals.map I64).length (y.vals.map I64) := by rw [List.length_map]; exact h.own.o2
  have hG := box_more hm ho h.bO (by decide)
  have hgl := h.gl
  have e1 : TrOwn (w.heap.size + 2) w' r0 r1 v' { y with vals := y.vals ++ [k] } := by
    refine ⟨owns_eq h.own.o0 fun g hg => hm.oth g (h.own.ap g hg) (h.own.o0.lt g hg).2, owns_eq h.own.o1 fun g hg => hm.oth g (ty_apart h.own.o1 ho (by decide) g hg) (h.own.o1.lt g hg).2, ?_, fun i hi hi1 => ?_⟩
    · have := hm.own
      rw [List.length_map] at this
      show World.ownsRow _ _ _ _ _ (y.vals ++ [k]).length ((y.vals ++ [k]).map I64)
      rw [List.length_append, List.map_append]
      exact this
    · rcases hm.pos with e | e
      · exact h.own.ap i hi (by rw [← e]; exact hi1)
      · rw [hi1] at e
        injection e with e
        have := (h.own.o0.lt i hi).2
        omega
  obtain ⟨a, b, c, d, hr⟩ := h.bR
  refine ⟨⟨a, b, c, d, (box_more hm ho hr (by decide)).other _ _ (by show w.heap.size + 1 ≠ G; omega)⟩, ?_, e1.boxed hG (by decide) (by decide) _, (h.bel.trans (hm.bel.mono (by omega))).setCell (p := ⟨G, 2, none⟩) (by show w.heap.size ≤ G; omega) _, hgl⟩
  have := hG.set 2 v'
  rw [set4_2] at this
  exact this
/-- How far it has come. -/
def upto (body : Int) (names : List ByteArray) (i : Nat) : Tr := ⟨[body], names.take i, (names.take i).map fun _ => 0, 0⟩
theorem upto_all (body : Int) (names : List ByteArray) {i : Nat} (h : names.length ≤ i) : upto body names i = threadE body names := by
  unfold upto threadE
  rw [List.take_of_length_le h]
theorem upto_more {body : Int} {names : List ByteArray} {i : Nat} (h : i < names.length) : upto body names (i + 1) = { { upto body names i with names := (upto body names i).names ++ [names[i]] } with vals := (upto body names i).vals ++ [0] } := by
  unfold upto
  rw [List.take_succ_eq_append_getElem h, List.map_append]
  rfl
def TnR (w : World) (G : Nat) (body : Int) (names : List ByteArray) (r0 : Value) (iv : Value) (wr : World) : Prop := ∃ (i : Nat) (r1 r2 : Value), i ≤ names.length ∧ iv = .int .i64 i ∧ Hid (TnZ w G r0 r1 r2 (upto body names i) wr)

set_option maxRecDepth 100000 in
set_option maxHeartbeats 8000000 in
theorem specThreadNew_any (nv mv pv vn : Value) (x : Pg) (body : Int) (names : List ByteArray) (w : World) (h : PgAt w nv mv pv x) (hN : StrsAt w vn names) (hl : names.length ≤ 1048576) :
    Calls Try.prog 8 #[.agg #[nv, mv, pv], .int .i64 body, vn] w fun e w' => ∃ r0 r1 r2, e = .returned (.agg #[r0, r1, r2, .int .i64 (threadE body names).fault]) ∧ TrOwn w.heap.size w' r0 r1 r2 (threadE body names) ∧ Below w.heap.size w w' := by
  have HN := hide hN
  obtain ⟨o0, c0, rfl, _⟩ := h.nodes
  obtain ⟨o1, c1, rfl, _⟩ := h.mons
  obtain ⟨o2, c2, rfl, _⟩ := h.pros
  obtain ⟨ao, ac, rfl, _⟩ := hN
  obtain ⟨W1, hW⟩ : ∃ W1, (((w.alloc (.cells #[.slice o0 x.nodes.length c0, .slice o1 x.mons.length c1, .slice o2 x.pros.length c2] 40)).alloc (.cells #[.slice none 0 0, .slice none 0 0, .slice none 0 0, .int .i64 0] 34)).alloc (.cells #[.int .i64 body] 3)).alloc (.cells #[.slice (some ⟨w.heap.size + 2, 0, none⟩) 1 1, .slice none 0 0, .slice none 0 0, .int .i64 0] 34) = W1 := ⟨_, rfl⟩
  have Z0 : Hid (TnZ w (w.heap.size + 3) (.slice (some ⟨w.heap.size + 2, 0, none⟩) 1 1) (.slice none 0 0) (.slice none 0 0) (upto body names 0) W1) := by
    rw [← hW]
    have hb : Below w.heap.size w ((((w.alloc (.cells #[.slice o0 x.nodes.length c0, .slice o1 x.mons.length c1, .slice o2 x.pros.length c2] 40)).alloc (.cells #[.slice none 0 0, .slice none 0 0, .slice none 0 0, .int .i64 0] 34)).alloc (.cells #[.int .i64 body] 3)).alloc (.cells #[.slice (some ⟨w.heap.size + 2, 0, none⟩) 1 1, .slice none 0 0, .slice none 0 0, .int .i64 0] 34)) := by go_grown
    have bT : Box ((((w.alloc (.cells #[.slice o0 x.nodes.length c0, .slice o1 x.mons.length c1, .slice o2 x.pros.length c2] 40)).alloc (.cells #[.slice none 0 0, .slice none 0 0, .slice none 0 0, .int .i64 0] 34)).alloc (.cells #[.int .i64 body] 3)).alloc (.cells #[.slice (some ⟨w.heap.size + 2, 0, none⟩) 1 1, .slice none 0 0, .slice none 0 0, .int .i64 0] 34)) (w.heap.size + 2) #[.int .i64 body] 3 := (Box.madeAt (by simp) _ _).stays ((Below.refl _ _).alloc (Nat.le_refl _) _)
    refine hide ⟨⟨_, _, _, _, ((Box.madeAt (by simp) _ _).stays ((Below.refl _ _).alloc (Nat.le_refl _) _)).stays ((Below.refl _ _).alloc (Nat.le_refl _) _)⟩, Box.madeAt (by simp) _ _, ⟨?_, ⟨rfl, .inl ⟨rfl, rfl⟩⟩, ⟨rfl, .inl ⟨rfl, rfl⟩⟩, fun i _ h => by cases h⟩, hb, by omega⟩
    exact ⟨rfl, .inr ⟨w.heap.size + 2, 1, #[.int .i64 body], rfl, Nat.le_refl _, bT, show 1 ≤ 1 from Nat.le_refl 1, by first | (unfold maxLen; decide) | simp [maxLen], by first | rfl | simp, by first | rfl | simp [upto]⟩⟩
  have HW := hide hW
  clear hW h
  obtain ⟨n, en⟩ : ∃ n, names.length = n := ⟨_, rfl⟩
  have EN := hide en
  rw [en] at HN hl ⊢
  clear en
  go_enter Try.func8, Try.ntmps8
  go_wp2
  rw [HW.out]
  go_loopw [8] (fun iv wr => TnR w (w.heap.size + 3) body names (.slice (some ⟨w.heap.size + 2, 0, none⟩) 1 1) iv wr) (fun iv _ => n - (intOf iv).toNat)
  case atStart => exact ⟨0, _, _, by omega, rfl, Z0.out⟩
  case round =>
    clear Z0 HW
    obtain ⟨i, r1, r2, hi, rfl, Z⟩ := hrel
    rw [EN.out] at hi
    obtain ⟨p1, k1, rfl⟩ := form_own Z.out.own.o1
    obtain ⟨p2, k2, rfl⟩ := form_own Z.out.own.o2
    have hnl : (upto body names i).names.length ≤ 1048576 := by show (names.take i).length ≤ _; rw [List.length_take]; omega
    have hvl : (upto body names i).vals.length ≤ 1048576 := by show ((names.take i).map _).length ≤ _; rw [List.length_map, List.length_take]; omega
    have HUM := hide fun h => upto_more (body := body) (names := names) (i := i) h
    have HUA := hide fun h => upto_all body names (i := i) h
    obtain ⟨y, ey⟩ : ∃ y, upto body names i = y := ⟨_, rfl⟩
    have EY := hide ey
    rw [ey] at Z hnl hvl HUM HUA
    clear ey
    by_cases hlt : i < n
    case neg =>
      have hlt' : ¬ (i : Int) < (n : Int) := by omega
      have HE := hide (HUA.out (by rw [EN.out]; omega))
      have t0 := (Lib.cell_of_heap Z.out.bO 0).trans rfl
      have t1 := (Lib.cell_of_heap Z.out.bO 1).trans rfl
      have t2 := (Lib.cell_of_heap Z.out.bO 2).trans rfl
      have t3 := (Lib.cell_of_heap Z.out.bO 3).trans rfl
      obtain ⟨ra, rb, rc, rd, hrr⟩ := Z.out.bR
      have b0 := (Lib.cell_of_heap hrr 0).trans rfl
      have b1 := (Lib.cell_of_heap hrr 1).trans rfl
      have b2 := (Lib.cell_of_heap hrr 2).trans rfl
      have b3 := (Lib.cell_of_heap hrr 3).trans rfl
      have f0 := Lib.frozen_of_heap hrr 0
      have f1 := Lib.frozen_of_heap hrr 1
      have f2 := Lib.frozen_of_heap hrr 2
      have f3 := Lib.frozen_of_heap hrr 3
      clear hrr
      obtain ⟨W, eW, hB, hO, hBel⟩ := (PaZ.mk Z.out.bR Z.out.own Z.out.bel : PaZ w _ _ _ y wr).fin
      have HR := hide (And.intro hB (And.intro hO hBel))
      have EW := hide eW
      clear hB hO hBel eW
      go_wp2
      rw [EW.out]
      refine box_ret (g := w.heap.size + 1) (t := 34) (cs := #[.slice (some ⟨w.heap.size + 2, 0, none⟩) 1 1, .slice p1 y.names.length k1, .slice p2 y.vals.length k2, .int .i64 y.fault]) rfl rfl ?_ _ Try.underlying34 rfl (by kernel_rfl) rfl ?_
      · exact HR.out.1
      · rw [← HE.out]
        exact ⟨_, _, _, rfl, HR.out.2.1, HR.out.2.2⟩
    case pos =>
      have hlt' : (i : Int) < (n : Int) := by omega
      have hi0 : (0 : Int) ≤ (i : Int) := by omega
      have hin : i < names.length := by rw [EN.out]; exact hlt
      have HE := hide (HUM.out hin)
      obtain ⟨ao', c', e1, hc1⟩ := HN.out.stays Z.out.bel
      injection e1 with e2 e3 e4
      subst e2
      obtain ⟨an, rfl, han, hx⟩ := hc1 i hin
      obtain ⟨s, es⟩ : ∃ s, names[i] = s := ⟨_, rfl⟩
      rw [es] at hx HE
      clear hc1 e3 e4 es HUM HUA
      have to1 := (Lib.cell_of_heap Z.out.bO 1).trans rfl
      have td1 := fun o => (Lib.cell_of_heap (Z.out.bO.stays ((Below.refl _ _).alloc (Nat.le_refl _) o)) 1).trans rfl
      have HG := hide fun W h => Z.out.stays (z' := W) h
      have HLE : Hid (∀ W, Below wr.heap.size wr W → w.heap.size + 2 ≤ W.heap.size) := fun W h => by have h1 := (HG.out W h).bO.lt; have h2 := (HG.out W h).gl; omega
      go_wp2_with fail
      go_cut [8] from 12 to 35 (fun iv z => iv = .int .i64 i ∧ ∃ r, Hid (TnZ w (w.heap.size + 3) (.slice (some ⟨w.heap.size + 2, 0, none⟩) 1 1) r (.slice p2 y.vals.length k2) { y with names := y.names ++ [s] } z))
      case first =>
        go_region_law ((refine step_more rfl (.tmp 20) (.tmp 25) 27 rfl (w.heap.size + 2) 9 (.string ⟨#[]⟩) 16 Try.underlying27 Try.infoStr rfl (.slice p1 y.names.length k1) (y.names.map S) rfl ?_ wr.heap.size (.string s) rfl ?_ rfl ?_ ?_ ?_ ?_; (rw [List.length_map]; exact (HG.out _ (by first | go_grown | exact (Below.refl _ _).drew | exact ((Below.refl _ _).alloc (Nat.le_refl _) _).drew | exact (((Below.refl _ _).alloc (Nat.le_refl _) _).drew).drew | exact ((Below.refl _ _).drew.alloc (Nat.le_refl _) _) | exact ((Below.refl _ _).drew.alloc (Nat.le_refl _) _).drew)).own.o1); (exact Lib.cell_of_heap (Box.made wr _ _) 0); (rw [List.length_map]; unfold maxLen; omega); (rw [List.length_map]; omega); (exact HLE.out _ (by first | go_grown | exact (Below.refl _ _).drew | exact ((Below.refl _ _).alloc (Nat.le_refl _) _).drew | exact (((Below.refl _ _).alloc (Nat.le_refl _) _).drew).drew | exact ((Below.refl _ _).drew.alloc (Nat.le_refl _) _) | exact ((Below.refl _ _).drew.alloc (Nat.le_refl _) _).drew)); intro v' w' hm; have HBX := hide (box_more hm (by rw [List.length_map]; exact (HG.out _ (by first | go_grown | exact (Below.refl _ _).drew | exact ((Below.refl _ _).alloc (Nat.le_refl _) _).drew | exact (((Below.refl _ _).alloc (Nat.le_refl _) _).drew).drew | exact ((Below.refl _ _).drew.alloc (Nat.le_refl _) _) | exact ((Below.refl _ _).drew.alloc (Nat.le_refl _) _).drew)).own.o1) (HG.out _ (by first | go_grown | exact (Below.refl _ _).drew | exact ((Below.refl _ _).alloc (Nat.le_refl _) _).drew | exact (((Below.refl _ _).alloc (Nat.le_refl _) _).drew).drew | exact ((Below.refl _ _).drew.alloc (Nat.le_refl _) _) | exact ((Below.refl _ _).drew.alloc (Nat.le_refl _) _).drew)).bO (by decide)); have sh := form_own hm.own; obtain ⟨po, co, e9⟩ := sh; subst e9; have Z9 := hide (TnZ.name (HG.out _ (by first | go_grown | exact (Below.refl _ _).drew | exact ((Below.refl _ _).alloc (Nat.le_refl _) _).drew | exact (((Below.refl _ _).alloc (Nat.le_refl _) _).drew).drew | exact ((Below.refl _ _).drew.alloc (Nat.le_refl _) _) | exact ((Below.refl _ _).drew.alloc (Nat.le_refl _) _).drew)) hm); rw [List.length_map] at Z9; have kc := (Lib.cell_of_heap HBX.out 1).trans rfl; have kf := Lib.frozen_of_heap HBX.out 1; clear hm))
        all_goals go_wp2_with fail
        all_goals go_meet
        all_goals exact ⟨rfl, _, Z9⟩
      case rest =>
        obtain ⟨rfl, r, ZR⟩ := hcut
        obtain ⟨pr, kr, er⟩ := form_own ZR.out.own.o1
        subst er
        clear HG HLE td1 to1 hx Z
        have to2 := (Lib.cell_of_heap ZR.out.bO 2).trans rfl
        have HV := hide (ZR.out.stays ((Below.refl _ _).alloc (Nat.le_refl _) (.cells #[.int .i64 0] 3)))
        have HUV : Hid ((wc.alloc (.cells #[.int .i64 0] 3)).cell? ⟨wc.heap.size, 0, none⟩ = some (.int .i64 0)) := hide (Lib.cell_of_heap (Box.made _ _ _) 0)
        have HOV : Hid ((wc.alloc (.cells #[.int .i64 0] 3)).ownsRow (w.heap.size + 2) 3 1 (.slice p2 y.vals.length k2) (y.vals.map I64).length (y.vals.map I64)) := by rw [List.length_map]; exact hide HV.out.own.o2
        have HLE : Hid (w.heap.size + 2 ≤ (wc.alloc (.cells #[.int .i64 0] 3)).heap.size) := by have h1 := HV.out.bO.lt; have h2 := HV.out.gl; show _ ≤ _; omega
        go_wp2_with (at_builtin; refine wpList_moreH rfl (.tmp 31) (.tmp 32) 30 rfl (w.heap.size + 2) 3 (.int .i64 0) 8 Try.underlying30 Try.infoInt rfl (.slice p2 y.vals.length k2) (y.vals.map I64) rfl HOV.out wc.heap.size (.int .i64 0) rfl HUV.out rfl ?_ ?_ HLE.out ?_; (rw [List.length_map]; unfold maxLen; omega); (rw [List.length_map]; omega); intro v' w' hm; have sh := form_own hm.own; obtain ⟨po, co, e9⟩ := sh; subst e9; have HBX := hide (box_more hm HOV.out HV.out.bO (by decide)); have Z3 := hide (HV.out.val hm); rw [List.length_map] at Z3; have m0 := (Lib.cell_of_heap HBX.out 2).trans rfl; have m1 := Lib.frozen_of_heap HBX.out 2; clear hm)
        go_roundw
        case rel => exact ⟨i + 1, _, _, by rw [EN.out]; omega, by go_num, by rw [HE.out]; exact Z3⟩
        case measure => simp [intOf]; omega
end Go.Proofs.Ytipmgmmchmdajaa

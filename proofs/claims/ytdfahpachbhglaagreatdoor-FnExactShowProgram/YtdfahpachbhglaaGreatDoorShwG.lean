/-
  Showing, by the program: a whole program; what is shown at last.
-/
import Derived.Test.YtdfahpachbhglaaGreatDoorShwN
import Derived.Test.YtdfahpachbhglaaGreatDoorShowB
import Derived.Test.YtdfahpachbhglaaGreatDoorImpU
namespace Go.Proofs.YtdfahpachbhglaaGreatDoor
open Go.RowKit

/-- What is asked of a program that is shown. -/
structure PgSh (W0 : World) (g : Nat) (nv mv pv : Value) (x : Pg) : Prop where
  mos : MosAt W0 mv x.mons
  prs : PrsAt W0 pv x.pros
  mon : ∀ m ∈ x.mons, m.name.size ≤ 8 ∧ NmOk m.vars ∧ NmOk m.queues ∧ m.ents.length ≤ 3 ∧ ∀ e ∈ m.ents, e.name.size ≤ 8 ∧ e.param.size ≤ 8 ∧ BdOk W0 g nv mv pv x.nodes e.body
  pro : ∀ p ∈ x.pros, p.name.size ≤ 8 ∧ NmOk p.uses ∧ NmOk p.vars ∧ BdOk W0 g nv mv pv x.nodes p.body
  ml : x.mons.length ≤ 3
  pl : x.pros.length ≤ 4
def MoyR (W0 : World) (g : Nat) (nv mv pv : Value) (l : List ByteArray) (ns : List Nd) (ms : List Mo) (w : World) (iv : Value) (wr : World) : Prop :=
  ∃ i : Nat, i ≤ ms.length ∧ iv = .int .i64 i ∧ Hid (ShP W0 g nv mv pv (l ++ (ms.take i).flatMap (monS ns)) wr) ∧ Hid (ShK W0.heap.size g w wr)
def PryR (W0 : World) (g : Nat) (nv mv pv : Value) (l : List ByteArray) (ns : List Nd) (ps : List Pr) (w : World) (iv : Value) (wr : World) : Prop :=
  ∃ i : Nat, i ≤ ps.length ∧ iv = .int .i64 i ∧ Hid (ShP W0 g nv mv pv (l ++ (ps.take i).flatMap (prcS ns)) wr) ∧ Hid (ShK W0.heap.size g w wr)
theorem ShP.cells {W0 : World} {g : Nat} {nv mv pv : Value} {l : List ByteArray} {w : World} (h : ShP W0 g nv mv pv l w) : w.cell? ⟨g, 0, none⟩ = some nv ∧ w.cell? ⟨g, 1, none⟩ = some mv ∧ w.cell? ⟨g, 2, none⟩ = some pv := by
  obtain ⟨⟨t, f, h1, _⟩, _⟩ := h
  have := h1.cells
  exact ⟨this.1, this.2.1, this.2.2.1⟩

set_option maxRecDepth 100000 in
set_option maxHeartbeats 4000000 in
theorem shProgram_any {W0 : World} {g : Nat} {nv mv pv : Value} (x : Pg) (hP : PgSh W0 g nv mv pv x) (w : World) (h : ShP W0 g nv mv pv [] w) :
    Calls Tryz.prog 20 #[.pointer (some ⟨g, 0, none⟩)] w (ShQ W0 g nv mv pv (prgS x) w) := by
  have H := hide h
  have HP := hide hP
  obtain ⟨_, c1, _⟩ := h.cells
  obtain ⟨mo, mc, rfl⟩ : ∃ a c, mv = .slice a x.mons.length c := by obtain ⟨a, c, e, _⟩ := hP.mos; exact ⟨a, c, e⟩
  obtain ⟨po, pc, rfl⟩ : ∃ a c, pv = .slice a x.pros.length c := by obtain ⟨a, c, e, _⟩ := hP.prs; exact ⟨a, c, e⟩
  obtain ⟨n, en⟩ : ∃ n, x.mons.length = n := ⟨_, rfl⟩
  obtain ⟨m, em⟩ : ∃ m, x.pros.length = m := ⟨_, rfl⟩
  have EN := hide en
  have EM := hide em
  have hn3 : n ≤ 3 := by rw [← en]; exact hP.ml
  have hm4 : m ≤ 4 := by rw [← em]; exact hP.pl
  rw [en, em] at H HP ⊢
  rw [en] at c1
  clear h hP en em
  go_enter Tryz.func20, Tryz.ntmps20
  go_wp2
  clear c1
  go_loopw [12] (fun iv wr => MoyR W0 g nv (.slice mo n mc) (.slice po m pc) [] x.nodes x.mons w iv wr) (fun iv _ => n - (intOf iv).toNat)
  case atStart => exact ⟨0, by omega, rfl, H.out, ShK.refl _ _ _⟩
  case round =>
    obtain ⟨i, hi, rfl, S, K⟩ := hrel
    rw [EN.out] at hi
    by_cases hlt : i < n
    · have hlt' : (i : Int) < (n : Int) := by omega
      have hi0 : (0 : Int) ≤ (i : Int) := by omega
      have hix : i < x.mons.length := by rw [EN.out]; exact hlt
      obtain ⟨q1, q2, q3, q4, q5⟩ := HP.out.mon _ (List.getElem_mem hix)
      obtain ⟨ao', c', e1, hc1⟩ := HP.out.mos
      injection e1 with e2 e3 e4
      subst e2
      obtain ⟨a, vv, qv, ev, rfl, hpb, hx⟩ := hc1 i hix
      obtain ⟨r, hra⟩ : ∃ r, a.add (i * 4) = r := ⟨_, rfl⟩
      have hrb : r.block < W0.heap.size := by rw [← hra, block_add]; exact hpb
      rw [hra] at hx
      have CM := fun l w h => shMonitor_any (g := g) (nv := nv) (mv := .slice (some a) n mc) (pv := .slice po m pc) (ns := x.nodes) x.mons[i] vv qv ev hx.vars hx.queues hx.ents q1 q2 q3 q4 q5 l w h
      have hy := hx.stays S.out.bel hrb
      obtain ⟨d0, d1, d2, d3, ⟨o1, k1, rfl, _⟩, ⟨o2, k2, rfl, _⟩, ⟨o3, k3, rfl, _⟩⟩ := hy
      have HT : Hid ((x.mons.take (i + 1)).flatMap (monS x.nodes) = (x.mons.take i).flatMap (monS x.nodes) ++ monS x.nodes x.mons[i]) := by
        show _ = _
        rw [List.take_succ_eq_append_getElem hix, List.flatMap_append, List.flatMap_singleton]
      obtain ⟨y, ey⟩ : ∃ y, x.mons[i] = y := ⟨_, rfl⟩
      simp only [ey] at d0 d1 d2 d3 CM HT
      clear e3 e4 hc1 ey hx q1 q2 q3 q4 q5
      have hb2 : Below wr.heap.size wr (wr.alloc (.cells #[.string y.name, .slice o1 y.vars.length k1, .slice o2 y.queues.length k2, .slice o3 y.ents.length k3] 45)) := (Below.refl _ _).alloc (Nat.le_refl _) _
      have S0 := hide (S.out.stays hb2)
      have K0 := hide (K.out.trans (ShK.of (g := g) hb2 S.out.bel.size))
      clear hb2
      go_wp2_with fail
      refine (CM _ _ S0.out).mono ?_
      rintro e z2 ⟨rfl, hs, hk⟩
      have S2 := hide hs
      have K2 := hide (K0.out.trans hk)
      clear hs hk d0 d1 d2 d3
      go_wp2
      go_roundw
      case rel => exact ⟨i + 1, by rw [EN.out]; omega, by go_num, by rw [HT.out, ← List.append_assoc]; exact S2.out, K2.out⟩
      case measure => simp [intOf]; omega
    · have hlt' : ¬ (i : Int) < (n : Int) := by omega
      have HE : Hid (x.mons.take i = x.mons) := List.take_of_length_le (by rw [EN.out]; omega)
      rw [HE.out, List.nil_append] at S
      obtain ⟨_, _, c2⟩ := S.out.cells
      go_wp2
      clear c2
      go_loopw [26] (fun iv wr => PryR W0 g nv (.slice mo n mc) (.slice po m pc) (x.mons.flatMap (monS x.nodes)) x.nodes x.pros w iv wr) (fun iv _ => m - (intOf iv).toNat)
      case atStart => exact ⟨0, by omega, rfl, by rw [List.take_zero, List.flatMap_nil, List.append_nil]; exact S.out, K.out⟩
      case round =>
        clear S K hlt'
        obtain ⟨j, hj, rfl, S, K⟩ := hrel
        rw [EM.out] at hj
        by_cases hltj : j < m
        · have hltj' : (j : Int) < (m : Int) := by omega
          have hj0 : (0 : Int) ≤ (j : Int) := by omega
          have hjx : j < x.pros.length := by rw [EM.out]; exact hltj
          obtain ⟨q1, q2, q3, q4⟩ := HP.out.pro _ (List.getElem_mem hjx)
          obtain ⟨ao', c', e1, hc1⟩ := HP.out.prs
          injection e1 with e2 e3 e4
          subst e2
          obtain ⟨a, uv, vv, rfl, hpb, hx⟩ := hc1 j hjx
          obtain ⟨r, hra⟩ : ∃ r, a.add (j * 4) = r := ⟨_, rfl⟩
          have hrb : r.block < W0.heap.size := by rw [← hra, block_add]; exact hpb
          rw [hra] at hx
          have CM := fun l w h => shProcess_any (g := g) (nv := nv) (mv := .slice mo n mc) (pv := .slice (some a) m pc) (ns := x.nodes) x.pros[j] uv vv hx.uses hx.vars q1 q2 q3 q4 l w h
          have hy := hx.stays S.out.bel hrb
          obtain ⟨d0, d1, d2, d3, ⟨o1, k1, rfl, _⟩, ⟨o2, k2, rfl, _⟩⟩ := hy
          have HT : Hid ((x.pros.take (j + 1)).flatMap (prcS x.nodes) = (x.pros.take j).flatMap (prcS x.nodes) ++ prcS x.nodes x.pros[j]) := by
            show _ = _
            rw [List.take_succ_eq_append_getElem hjx, List.flatMap_append, List.flatMap_singleton]
          obtain ⟨y, ey⟩ : ∃ y, x.pros[j] = y := ⟨_, rfl⟩
          simp only [ey] at d0 d1 d2 d3 CM HT
          clear e3 e4 hc1 ey hx q1 q2 q3 q4
          have hb2 : Below wr.heap.size wr (wr.alloc (.cells #[.string y.name, .slice o1 y.uses.length k1, .slice o2 y.vars.length k2, .int .i64 y.body] 51)) := (Below.refl _ _).alloc (Nat.le_refl _) _
          have S0 := hide (S.out.stays hb2)
          have K0 := hide (K.out.trans (ShK.of (g := g) hb2 S.out.bel.size))
          clear hb2
          go_wp2_with fail
          refine (CM _ _ S0.out).mono ?_
          rintro e z2 ⟨rfl, hs, hk⟩
          have S2 := hide hs
          have K2 := hide (K0.out.trans hk)
          clear hs hk d0 d1 d2 d3
          go_wp2
          go_roundw
          case rel => exact ⟨j + 1, by rw [EM.out]; omega, by go_num, by rw [HT.out, ← List.append_assoc]; exact S2.out, K2.out⟩
          case measure => simp [intOf]; omega
        · have hltj' : ¬ (j : Int) < (m : Int) := by omega
          have HE : Hid (x.pros.take j = x.pros) := List.take_of_length_le (by rw [EM.out]; omega)
          rw [HE.out] at S
          go_wp2_with fail
          refine Calls.mono (shP1 _ ?_ S.out ?_) ?_
          · simp
          · (
  intro y hy;
  simp only [List.mem_cons, List.not_mem_nil, or_false] at hy;
  rcases hy with rfl | rfl | rfl | rfl | rfl <;> first | assumption | omega | decide)
          rintro e z2 ⟨rfl, hs, hk⟩
          have S2 := hide hs
          have K2 := hide (K.out.trans hk)
          clear hs hk
          go_wp2
          go_end0
          refine ⟨rfl, ?_, K2.out⟩
          have hs := S2.out
          rw [List.append_assoc] at hs
          exact hs

theorem cellsByteS : Tryz.prog.cellsOf 5 = 1 := by kernel_rfl
set_option maxHeartbeats 2000000 in
set_option maxRecDepth 100000 in
theorem shString_any (B g : Nat) (nv mv pv : Value) (t : ByteArray) (f : Bool) (w : World) (h : ShI B g nv mv pv (Lib.strCells t) f w) (h0 : t.size ≠ 0) :
    Calls Tryz.prog 44 #[.pointer (some ⟨g, 4, none⟩)] w fun e w' => e = .returned (.string t) ∧ Below B w w' := by
  obtain ⟨av, v, hk, hown⟩ : ∃ av v, w.heap[g]? = some (.cells #[nv, mv, pv, .int .i64 1500, av, v, .bool f] 61 (0, 0)) ∧ w.ownsRowF B 5 1 v (Lib.strCells t).length (Lib.strCells t) := by
    rcases h with ⟨_, v, hk, hown, _⟩ | ⟨_, v, hk, hown, _⟩
    · exact ⟨_, v, hk, hown⟩
    · exact ⟨_, v, hk, hown⟩
  obtain ⟨l, el⟩ : ∃ l : List UInt8, l = t.data.toList := ⟨_, rfl⟩
  have et : t = ⟨l.toArray⟩ := by rw [el]
  have hls : l.length = t.size := by rw [el]; rfl
  rw [Lib.strCells_eq, ← el, Lib.byteCells_length] at hown
  have hl0 : l.length ≠ 0 := by omega
  have h0' : l ≠ [] := fun e => hl0 (by rw [e]; rfl)
  rw [et]
  obtain ⟨k, cap, cur, fz, rfl, hbg, hg, hfz, hnc, hcm, hcs, htake⟩ : ∃ k cap cur fz, v = .slice (some ⟨k, 0, none⟩) l.length cap ∧ B ≤ k ∧ w.heap[k]? = some (.cells cur 5 fz) ∧ fz.2 ≤ l.length * 1 ∧ l.length ≤ cap ∧ cap ≤ maxLen ∧ cur.size = cap * 1 ∧ cur.toList.take (l.length * 1) = Lib.byteCells l := by
    rcases hown.2 with ⟨_, hz⟩ | ⟨g, cap, cur, fz, hv, r⟩
    · exact absurd hz hl0
    · exact ⟨g, cap, cur, fz, hv, r⟩
  have c1 : w.drew.cell? ⟨g, 5, none⟩ = some (.slice (some ⟨k, 0, none⟩) l.length cap) := by
    have : w.drew.heap[g]? = some (.cells #[nv, mv, pv, .int .i64 1500, av, .slice (some ⟨k, 0, none⟩) l.length cap, .bool f] 61 (0, 0)) := hk
    rw [Lib.cell_of_heap this]; rfl
  have hSD : (Builtin.unsafeSliceData_ #[57] 110 #[.slice (some ⟨k, 0, none⟩) l.length cap]).run Tryz.prog w.drew = .ok (.pointer (some ⟨k, 0, none⟩)) w.drew :=
    Lib.run_unsafeSliceData_row _ _ _ _ _ _ (by omega)
  have hUS : (Builtin.unsafeString_ #[110, 3] 9 #[.pointer (some ⟨k, 0, none⟩), .int .i64 l.length]).run Tryz.prog w.drew = .ok (.string ⟨l.toArray⟩) (w.drew.freeze ⟨k, 0, none⟩ l.length) := by
    refine Lib.run_unsafeString_row w.drew 110 3 9 5 Tryz.underlying110 cellsByteS k cur.size (by have hg' : w.drew.heap[k]? = some (.cells cur 5 fz) := hg; simp [World.shape?, hg']) l h0' (by omega) (by unfold maxLen at hcm; omega) ?_
    intro j x hx
    have := hown.cells (g := k) rfl j (.int .u8 x.toNat) (by simp [Lib.byteCells, hx])
    exact this
  have mixed : Tryz.prog.follows Departure.mixedOrders = true := by kernel_rfl
  clear el et hls hk hown h hg hcs htake hfz hcm hnc h0
  go_enter Tryz.func44, Tryz.ntmps44
  go_wp2
  go_region_o
  all_goals (go_wp2; go_ret; exact ⟨rfl, Lib.below_freeze (Below.drew (Below.refl B w)) (p := ⟨k, 0, none⟩) hbg _⟩)

/-- What is told at last of these signs. -/
def showJ (l : List ByteArray) : ByteArray × Bool := if (foldJ l).size ≤ 1500 then (foldJ l, true) else (ByteArray.empty, false)
set_option maxHeartbeats 1000000 in
theorem shown_any {W0 : World} {g : Nat} {nv mv pv : Value} (l : List ByteArray) (w : World) (h : ShP W0 g nv mv pv l w) (hne : (foldJ l).size ≠ 0) :
    Calls Tryz.prog 21 #[.pointer (some ⟨g, 0, none⟩)] w fun e w' => e = .returned (.tuple #[.string (showJ l).1, .bool (showJ l).2]) ∧ Below W0.heap.size w w' := by
  obtain ⟨⟨t, f, h1, h2, h3, h4⟩, _⟩ := h
  obtain ⟨_, _, _, _, c6, _⟩ := h1.cells
  cases f with
  | true =>
    have HE : Hid (showJ l = (ByteArray.empty, false)) := by
      have := h4 rfl
      show _ = _
      rw [showJ, if_neg (by omega)]
    rw [HE.out]
    clear h3 h4 HE hne
    go_enter Tryz.func21, Tryz.ntmps21
    go_wp2
    go_ret2
    exact ⟨rfl, Below.refl _ _⟩
  | false =>
    have et := h3 rfl
    have HE : Hid (showJ l = (t, true)) := by
      show _ = _
      rw [showJ, if_pos (by rw [← et]; exact h2), ← et]
    have CS := hide (shString_any W0.heap.size g nv mv pv t false w h1 (by rw [et]; exact hne))
    rw [HE.out]
    clear h3 h4 HE hne et
    go_enter Tryz.func21, Tryz.ntmps21
    go_wp2_with fail
    refine (unhide CS).mono ?_
    rintro e w1 ⟨rfl, hb⟩
    go_wp2
    go_ret2
    exact ⟨rfl, hb⟩
end Go.Proofs.YtdfahpachbhglaaGreatDoor

namespace Go.Proofs.YtdfahpachbhglaaGreatDoor

/-- Signs, each with a blank behind. -/
def bl : List ByteArray → ByteArray
  | [] => ByteArray.empty
  | a :: r => a ++ ⟨#[32]⟩ ++ bl r
theorem bl_app : ∀ a b : List ByteArray, bl (a ++ b) = bl a ++ bl b
  | [], b => by simp [bl]
  | x :: a, b => by rw [List.cons_append, bl, bl, bl_app a b]; simp only [ByteArray.append_assoc]
theorem bl_cons (a : ByteArray) (r : List ByteArray) : bl (a :: r) = a ++ ⟨#[32]⟩ ++ bl r := rfl
theorem bl_nil : bl [] = ByteArray.empty := rfl
theorem join_bl : ∀ {l : List ByteArray}, l ≠ [] → joinS l ++ ⟨#[32]⟩ = bl l
  | [], h => absurd rfl h
  | [a], _ => by simp [joinS, bl]
  | a :: b :: r, _ => by
    rw [joinS_cons a (by simp), ByteArray.append_assoc, join_bl (l := b :: r) (by simp), bl_cons a]
theorem joinS_snoc : ∀ (a : List ByteArray) (x : ByteArray), joinS (a ++ [x]) = bl a ++ x
  | [], x => by simp [joinS, bl]
  | a :: r, x => by
    rw [List.cons_append, joinS_cons a (by simp), joinS_snoc r x, bl_cons]; simp only [ByteArray.append_assoc]
theorem fold_join : ∀ (r : List ByteArray) (t : ByteArray), t.size ≠ 0 → r.foldl putJ t = joinS (t :: r)
  | [], t, _ => rfl
  | b :: r, t, h => by
    have e : putJ t b = t ++ ⟨#[32]⟩ ++ b := by rw [putJ, if_neg h]
    have h2 : (t ++ ⟨#[32]⟩ ++ b).size ≠ 0 := by rw [ByteArray.size_append, ByteArray.size_append]; omega
    rw [List.foldl_cons, e, fold_join r _ h2]
    cases r with
    | nil => rfl
    | cons c r => rw [joinS_cons _ (by simp), joinS_cons t (by simp), joinS_cons b (by simp)]; simp only [ByteArray.append_assoc]
theorem foldJ_join {a : ByteArray} {r : List ByteArray} (h : a.size ≠ 0) : foldJ (a :: r) = joinS (a :: r) := by
  have e : putJ ByteArray.empty a = a := by
    rw [putJ, if_pos (by rfl)]
    simp
  rw [foldJ, List.foldl_cons, e, fold_join r a h]
theorem namesT_join (word : ByteArray) : ∀ {xs : List ByteArray}, xs ≠ [] → namesT word xs = joinS (namesS word xs) := by
  intro xs
  induction xs using snoc_ind with
  | h0 => exact fun h => absurd rfl h
  | hs l x ih =>
    intro _
    by_cases h : l = []
    · subst h
      rw [List.nil_append, namesT_one, namesS_one]
      rfl
    · rw [namesT_more word h, namesS_snoc word h, ih h, joinS_app (by cases l with | nil => exact absurd rfl h | cons a r => simp [namesS]) (by simp)]
      have c : (⟨#[32, 44]⟩ : ByteArray) = ⟨#[32]⟩ ++ ⟨#[44]⟩ := by decide +kernel
      rw [c]
      show _ = joinS (namesS word l) ++ ⟨#[32]⟩ ++ (⟨#[44]⟩ ++ ⟨#[32]⟩ ++ x)
      simp only [ByteArray.append_assoc]
theorem namesT_pre (p word : ByteArray) (xs : List ByteArray) : namesT (p ++ word) xs = p ++ namesT word xs := by
  induction xs using snoc_ind with
  | h0 => rfl
  | hs l x ih =>
    by_cases h : l = []
    · subst h
      rw [List.nil_append, namesT_one, namesT_one]
      simp only [ByteArray.append_assoc]
    · rw [namesT_more _ h, namesT_more _ h, ih]
      simp only [ByteArray.append_assoc]
theorem namesS_ne (word : ByteArray) {xs : List ByteArray} (h : xs ≠ []) : namesS word xs ≠ [] := by
  cases xs with
  | nil => exact absurd rfl h
  | cons a r => simp [namesS]
theorem c_end : (⟨#[32, 59, 32]⟩ : ByteArray) = ⟨#[32]⟩ ++ (⟨#[59]⟩ ++ ⟨#[32]⟩) := by decide +kernel
theorem listT_bl (word : ByteArray) (xs : List ByteArray) : listT word xs = bl (declS word xs) := by
  by_cases h : xs = []
  · subst h
    rfl
  · rw [listT, if_neg h, declS, if_neg (fun e => h (List.length_eq_zero_iff.1 e)), bl_app, ← join_bl (namesS_ne word h), namesT_join word h, c_end]
    simp only [bl, ByteArray.append_assoc, ByteArray.append_empty]
theorem entT_bl (ns : List Nd) (s : ByteArray) (e : En) : entT (fun k => joinS (shS ns 10 k)) s e = s ++ bl (entS ns e) := by
  have c1 : (⟨#[101, 110, 116, 114, 121, 32]⟩ : ByteArray) = ⟨#[101, 110, 116, 114, 121]⟩ ++ ⟨#[32]⟩ := by decide +kernel
  have c2 : (⟨#[32, 40, 32]⟩ : ByteArray) = ⟨#[32]⟩ ++ (⟨#[40]⟩ ++ ⟨#[32]⟩) := by decide +kernel
  have c3 : (⟨#[32, 41, 32]⟩ : ByteArray) = ⟨#[32]⟩ ++ (⟨#[41]⟩ ++ ⟨#[32]⟩) := by decide +kernel
  rw [entT, entS, c1, c2, c3, c_end]
  simp only [bl, bl_app, ← join_bl (shS_ne ns 9 e.body.toNat), ByteArray.append_assoc, ByteArray.append_empty]
theorem ents_bl (ns : List Nd) : ∀ (es : List En) (s : ByteArray), es.foldl (entT (fun k => joinS (shS ns 10 k))) s = s ++ bl (es.flatMap (entS ns))
  | [], s => by simp [bl]
  | e :: es, s => by rw [List.foldl_cons, ents_bl ns es, entT_bl, List.flatMap_cons, bl_app, ByteArray.append_assoc]
theorem monT_bl (ns : List Nd) (s : ByteArray) (m : Mo) : monT (fun k => joinS (shS ns 10 k)) s m = s ++ bl (monS ns m) := by
  have c1 : (⟨#[109, 111, 110, 105, 116, 111, 114, 32]⟩ : ByteArray) = ⟨#[109, 111, 110, 105, 116, 111, 114]⟩ ++ ⟨#[32]⟩ := by decide +kernel
  have c2 : (⟨#[101, 110, 100, 32, 59, 32]⟩ : ByteArray) = ⟨#[101, 110, 100]⟩ ++ (⟨#[32]⟩ ++ (⟨#[59]⟩ ++ ⟨#[32]⟩)) := by decide +kernel
  rw [monT, ents_bl, monH, monS, c1, c2, c_end, listT_bl, listT_bl]
  simp only [bl, bl_app, ByteArray.append_assoc, ByteArray.append_empty]
theorem prcT_bl (ns : List Nd) (s : ByteArray) (p : Pr) : prcT (fun k => joinS (shS ns 10 k)) s p = s ++ bl (prcS ns p) := by
  have c1 : (⟨#[112, 114, 111, 99, 101, 115, 115, 32]⟩ : ByteArray) = ⟨#[112, 114, 111, 99, 101, 115, 115]⟩ ++ ⟨#[32]⟩ := by decide +kernel
  have c2 : (⟨#[32, 117, 115, 101, 115]⟩ : ByteArray) = ⟨#[32]⟩ ++ ⟨#[117, 115, 101, 115]⟩ := by decide +kernel
  rw [prcT, prcH, prcS, c1, c_end, listT_bl]
  by_cases h : p.uses = []
  · rw [if_pos h, h]
    simp only [namesS, bl, bl_app, List.nil_append, ← join_bl (shS_ne ns 9 p.body.toNat), ByteArray.append_assoc, ByteArray.append_empty]
  · rw [if_neg h, c2, namesT_pre, namesT_join _ h]
    simp only [bl, bl_app, ← join_bl (shS_ne ns 9 p.body.toNat), ← join_bl (namesS_ne _ h), ByteArray.append_assoc, ByteArray.append_empty]
theorem mons_bl (ns : List Nd) : ∀ (ms : List Mo) (s : ByteArray), ms.foldl (monT (fun k => joinS (shS ns 10 k))) s = s ++ bl (ms.flatMap (monS ns))
  | [], s => by simp [bl]
  | e :: es, s => by rw [List.foldl_cons, mons_bl ns es, monT_bl, List.flatMap_cons, bl_app, ByteArray.append_assoc]
theorem pros_bl (ns : List Nd) : ∀ (ps : List Pr) (s : ByteArray), ps.foldl (prcT (fun k => joinS (shS ns 10 k))) s = s ++ bl (ps.flatMap (prcS ns))
  | [], s => by simp [bl]
  | e :: es, s => by rw [List.foldl_cons, pros_bl ns es, prcT_bl, List.flatMap_cons, bl_app, ByteArray.append_assoc]
theorem shwT_join (x : Pg) : shwT (fun k => joinS (shS x.nodes 10 k)) x = joinS (prgS x) := by
  rw [shwT, pros_bl, mons_bl, prgS, ← List.append_assoc, joinS_snoc, bl_app]
  simp only [ByteArray.append_assoc, ByteArray.empty_append]
/-- A program with a process: its signs. -/
theorem foldJ_prg (x : Pg) (h : x.pros ≠ []) : foldJ (prgS x) = shwT (fun k => joinS (shS x.nodes 10 k)) x ∧ (foldJ (prgS x)).size ≠ 0 := by
  have key : ∃ a r, prgS x = a :: r ∧ a.size ≠ 0 := by
    unfold prgS
    cases x.mons with
    | cons m ms => exact ⟨_, _, rfl, by decide⟩
    | nil =>
      cases hp : x.pros with
      | nil => exact absurd hp h
      | cons p ps => exact ⟨_, _, rfl, by decide⟩
  obtain ⟨a, r, e, h0⟩ := key
  have e2 : foldJ (prgS x) = joinS (prgS x) := by rw [e]; exact foldJ_join h0
  refine ⟨e2.trans (shwT_join x).symm, ?_⟩
  have := foldJ_le [a] r
  rw [List.singleton_append, ← e, foldJ_join h0] at this
  have e3 : joinS [a] = a := rfl
  rw [e3] at this
  omega
end Go.Proofs.YtdfahpachbhglaaGreatDoor

namespace Go.Proofs.YtdfahpachbhglaaGreatDoor
open Go.RowKit

/-- What is known of a right program. -/
theorem right_of {x : Pg} (h : specProgB x = true) : ∃ dp, RightT x.nodes dp ∧ (∀ b ∈ bodiesL x.mons x.pros, ∃ k : Nat, b = (k : Int) ∧ KidB x.nodes dp 10 k) ∧ (∀ m ∈ x.mons, monB m = true) ∧ (∀ p ∈ x.pros, procB p = true) ∧ x.mons.length ≤ 3 ∧ x.pros.length ≤ 4 ∧ x.pros ≠ [] := by
  simp only [specProgB, listsB, Bool.and_eq_true, decide_eq_true_eq, List.all_eq_true (p := monB), List.all_eq_true (p := procB), inZ] at h
  obtain ⟨⟨h1, ⟨⟨h2, h3⟩, h4, h5⟩⟩, h6, h7, _⟩ := h
  have hR := rightT_of h6
  refine ⟨_, hR, fun b hb => ?_, h2, h3, by omega, by omega, fun e => by rw [e] at h5; simp at h5⟩
  have := List.all_eq_true.1 h7 b hb
  simp only [bodyQ, Bool.and_eq_true, inZ, decide_eq_true_eq] at this
  have hl : b.toNat < x.nodes.length := by omega
  exact ⟨b.toNat, by omega, hl, (hR.deep _ hl).2, this.2⟩
theorem nmOk_of {xs : List ByteArray} {n : Nat} (h : namesB xs n = true) (hn : n ≤ 3) : NmOk xs := by
  have := names_fit h
  exact ⟨Nat.le_trans this.1 hn, this.2⟩
theorem mem_bodies_mon {x : Pg} {m : Mo} {e : En} (hm : m ∈ x.mons) (he : e ∈ m.ents) : e.body ∈ bodiesL x.mons x.pros :=
  List.mem_append_left _ (List.mem_flatMap.2 ⟨m, hm, List.mem_map.2 ⟨e, he, rfl⟩⟩)
theorem mem_bodies_pro {x : Pg} {p : Pr} (hp : p ∈ x.pros) : p.body ∈ bodiesL x.mons x.pros :=
  List.mem_append_right _ (List.mem_map.2 ⟨p, hp, rfl⟩)
theorem pgSh_of {W0 : World} {g : Nat} {nv mv pv : Value} {x : Pg} (h : specProgB x = true) (E : ShE W0 nv mv pv x.nodes) (hM : MosAt W0 mv x.mons) (hP : PrsAt W0 pv x.pros) : PgSh W0 g nv mv pv x := by
  obtain ⟨dp, hR, hB, h1, h2, h3, h4, _⟩ := right_of h
  have bd : ∀ b ∈ bodiesL x.mons x.pros, BdOk W0 g nv mv pv x.nodes b := fun b hb => by
    obtain ⟨k, rfl, hk⟩ := hB b hb
    have := shBlock_any (g := g) hR E 10 k hk
    rw [BdOk, Int.toNat_natCast]
    exact this
  refine ⟨hM, hP, fun m hm => ?_, fun p hp => ?_, h3, h4⟩
  · have q := h1 m hm
    simp only [monB, Bool.and_eq_true, inZ, decide_eq_true_eq, List.all_eq_true] at q
    obtain ⟨⟨⟨⟨q1, q2⟩, q3⟩, q4⟩, q5⟩ := q
    refine ⟨nameB_size q1, nmOk_of q2 (by decide), nmOk_of q3 (by decide), by omega, fun e he => ?_⟩
    have r := q5 e he
    simp only [entB, Bool.and_eq_true] at r
    exact ⟨nameB_size r.1, nameB_size r.2, bd _ (mem_bodies_mon hm he)⟩
  · have q := h2 p hp
    simp only [procB, Bool.and_eq_true] at q
    exact ⟨nameB_size q.1.1, nmOk_of q.1.2 (by decide), nmOk_of q.2 (by decide), bd _ (mem_bodies_pro hp)⟩
theorem showP_yes {x : Pg} (h : specProgB x = true) : showP x = showJ (prgS x) ∧ (foldJ (prgS x)).size ≠ 0 := by
  obtain ⟨_, _, _, _, _, _, _, hp⟩ := right_of h
  obtain ⟨e, h0⟩ := foldJ_prg x hp
  refine ⟨?_, h0⟩
  rw [showP, if_pos h, showJ, e]
/-- A shower just made. -/
theorem ShP.start (W0 : World) (nv mv pv : Value) : ShP W0 W0.heap.size nv mv pv [] (W0.alloc (.cells #[nv, mv, pv, .int .i64 1500, .pointer none, .slice none 0 0, .bool false] 61)) := by
  refine ⟨⟨ByteArray.empty, false, Or.inl ⟨Nat.le_refl _, _, heap_alloc_new W0 _, ⟨rfl, .inl ⟨rfl, rfl⟩⟩, by simp [Value.ownBlock]⟩, by decide, fun _ => rfl, fun e => by cases e⟩, (Below.refl _ _).alloc (Nat.le_refl _) _⟩

set_option maxRecDepth 100000 in
set_option maxHeartbeats 2000000 in
theorem implShow_any (nv mv pv : Value) (x : Pg) (w : World) (hN : NdsAt w nv x.nodes) (hM : MosAt w mv x.mons) (hP : PrsAt w pv x.pros) (hr : NdsRoom w nv x.nodes.length) (hL : PgLen x) (hin : NsIn x.nodes) (hmi : ∀ m ∈ x.mons, MoIn m) (hpi : ∀ p ∈ x.pros, PrIn p) (hkl : (allKids x.nodes).length ≤ 1048576) (hbl : (bodiesL x.mons x.pros).length ≤ 1048576)
    (hO : OpsAt w) (hol : 0 < w.heap.size) (ht : Lib.TabIs Tryz.prog w "internal/strconv.uint64pow10" .u64 Lib.pow10Tab) (htl : 1 < w.heap.size) :
    Calls Tryz.prog 7 #[.agg #[nv, mv, pv]] w fun e w' => e = .returned (.tuple #[.string (showP x).1, .bool (showP x).2]) ∧ Below w.heap.size w w' := by
  have hb1 : Below w.heap.size w (w.alloc (.cells #[nv, mv, pv] 34)) := (Below.refl _ _).alloc (Nat.le_refl _) _
  have CP := hide (implProgramOk_any nv mv pv x _ (hN.stays hb1) (hM.stays hb1) (hP.stays hb1) (hr.stays hb1) hL hin hmi hpi hkl hbl)
  rw [← prog_eq] at CP
  have HX := hide (Boxed.made w nv mv pv 34)
  have HB1 := hide hb1
  have HW : Hid (∀ z, Below w.heap.size w z → ShE z nv mv pv x.nodes ∧ MosAt z mv x.mons ∧ PrsAt z pv x.pros) := fun z hz =>
    ⟨⟨hN.stays hz, by obtain ⟨a, c, e, _⟩ := hM; exact ⟨_, _, _, e⟩, hP.sl, hO.stays hz hol, Nat.lt_of_lt_of_le hol hz.size, var?_below hz gPow htl ht, Nat.lt_of_lt_of_le htl hz.size⟩, hM.stays hz, hP.stays hz⟩
  obtain ⟨na, nc, rfl⟩ : ∃ a c, nv = .slice a x.nodes.length c := by obtain ⟨a, c, e, _⟩ := hN; exact ⟨a, c, e⟩
  obtain ⟨ma, mc, rfl⟩ : ∃ a c, mv = .slice a x.mons.length c := by obtain ⟨a, c, e, _⟩ := hM; exact ⟨a, c, e⟩
  obtain ⟨pa, pc, rfl⟩ : ∃ a c, pv = .slice a x.pros.length c := by obtain ⟨a, c, e, _⟩ := hP; exact ⟨a, c, e⟩
  obtain ⟨c0, c1, c2, hlt0⟩ := HX.out
  cases hw : specProgB x with
  | false =>
    have HE : Hid (showP x = (ByteArray.empty, false)) := by show _ = _; unfold showP; rw [if_neg (by rw [hw]; decide)]
    rw [hw] at CP
    rw [HE.out]
    clear hb1 hN hM hP hL hin hmi hpi hkl hbl hw HE HX HW hO hol ht htl hr
    go_enter Tryz.func7, Tryz.ntmps7
    go_wp2_with fail
    refine (unhide CP).mono ?_
    rintro e w1 ⟨rfl, hb⟩
    go_wp2
    go_ret2
    exact ⟨rfl, HB1.out.trans (hb.mono HB1.out.size)⟩
  | true =>
    have HE := hide (showP_yes hw)
    have HQ := hide (fun (z : World) (g : Nat) E hm hp => pgSh_of (W0 := z) (g := g) (nv := .slice na x.nodes.length nc) (mv := .slice ma x.mons.length mc) (pv := .slice pa x.pros.length pc) hw E hm hp)
    rw [hw] at CP
    rw [HE.out.1]
    clear hb1 hN hM hP hL hin hmi hpi hkl hbl hw hO hol ht htl hr
    go_enter Tryz.func7, Tryz.ntmps7
    go_wp2_with fail
    refine (unhide CP).mono ?_
    rintro e w1 ⟨rfl, hb⟩
    have HB2 := hide (HB1.out.trans (hb.mono HB1.out.size))
    have HX2 := hide (HX.out.stays hb)
    clear c0 c1 c2 hlt0 HX hb CP HB1
    obtain ⟨c0, c1, c2, hlt0⟩ := HX2.out
    obtain ⟨hE, hM1, hP1⟩ := HW.out _ HB2.out
    have S0 := hide (ShP.start w1 (.slice na x.nodes.length nc) (.slice ma x.mons.length mc) (.slice pa x.pros.length pc))
    have CG := fun z h => hide (shProgram_any x (HQ.out w1 w1.heap.size hE hM1 hP1) z h)
    clear hE hM1 hP1 HW HQ
    go_wp2_with fail
    refine (unhide (CG _ S0.out)).mono ?_
    rintro e w2 ⟨rfl, hs, hk⟩
    have HB3 := hide (HB2.out.trans (hs.bel.mono HB2.out.size))
    have CS := hide (shown_any _ w2 hs HE.out.2)
    have HS := hide hs.bel.size
    clear hs hk CG S0 c0 c1 c2 hlt0
    go_wp2_with fail
    refine (unhide CS).mono ?_
    rintro e w3 ⟨rfl, hb3⟩
    have HB4 := hide (HB3.out.trans (hb3.mono HB2.out.size))
    clear hb3
    go_wp2
    go_ret2
    exact ⟨rfl, HB4.out⟩
end Go.Proofs.YtdfahpachbhglaaGreatDoor

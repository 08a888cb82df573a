/-
  Showing, by the program: lists of names, monitors, processes, a whole program.
-/
import Derived.Test.YtdfahpachbhglaaGreatDoorShwB
namespace Go.Proofs.YtdfahpachbhglaaGreatDoor
open Go.RowKit

/-- The signs of a list of names behind its word. -/
def namesS (word : ByteArray) : List ByteArray → List ByteArray
  | [] => []
  | a :: r => word :: a :: r.flatMap fun y => [⟨#[44]⟩, y]
theorem namesS_one (word x : ByteArray) : namesS word [x] = [word, x] := rfl
theorem namesS_snoc (word : ByteArray) {xs : List ByteArray} (h : xs ≠ []) (x : ByteArray) : namesS word (xs ++ [x]) = namesS word xs ++ [⟨#[44]⟩, x] := by
  cases xs with
  | nil => exact absurd rfl h
  | cons a r => simp [namesS, List.flatMap_append]
def declS (word : ByteArray) (xs : List ByteArray) : List ByteArray := if xs.length = 0 then [] else namesS word xs ++ [⟨#[59]⟩]
def entS (ns : List Nd) (e : En) : List ByteArray := ⟨#[101, 110, 116, 114, 121]⟩ :: e.name :: ⟨#[40]⟩ :: e.param :: ⟨#[41]⟩ :: (shS ns 10 e.body.toNat ++ [⟨#[59]⟩])
def monS (ns : List Nd) (m : Mo) : List ByteArray := ⟨#[109, 111, 110, 105, 116, 111, 114]⟩ :: m.name :: ⟨#[59]⟩ :: (declS ⟨#[118, 97, 114]⟩ m.vars ++ (declS ⟨#[113, 117, 101, 117, 101]⟩ m.queues ++ (m.ents.flatMap (entS ns) ++ [⟨#[101, 110, 100]⟩, ⟨#[59]⟩])))
def prcS (ns : List Nd) (p : Pr) : List ByteArray := ⟨#[112, 114, 111, 99, 101, 115, 115]⟩ :: p.name :: (namesS ⟨#[117, 115, 101, 115]⟩ p.uses ++ ⟨#[59]⟩ :: (declS ⟨#[118, 97, 114]⟩ p.vars ++ (shS ns 10 p.body.toNat ++ [⟨#[59]⟩])))
def prgS (x : Pg) : List ByteArray := x.mons.flatMap (monS x.nodes) ++ (x.pros.flatMap (prcS x.nodes) ++ [⟨#[46]⟩])

def NmeR (W0 : World) (g : Nat) (nv mv pv : Value) (l : List ByteArray) (word : ByteArray) (xs : List ByteArray) (w : World) (iv : Value) (wr : World) : Prop :=
  ∃ i : Nat, i ≤ xs.length ∧ iv = .int .i64 i ∧ Hid (ShP W0 g nv mv pv (l ++ namesS word (xs.take i)) wr) ∧ Hid (ShK W0.heap.size g w wr)

set_option maxRecDepth 100000 in
set_option maxHeartbeats 2000000 in
theorem shNames_any {W0 : World} {g : Nat} {nv mv pv : Value} (word : ByteArray) (v : Value) (xs : List ByteArray) (hv : StrsAt W0 v xs) (hl : xs.length ≤ 1048576) (hx : ∀ x ∈ xs, x.size ≤ 1048576) (hw : word.size ≤ 1048576) (l : List ByteArray) (w : World) (h : ShP W0 g nv mv pv l w) :
    Calls Tryz.prog 65 #[.pointer (some ⟨g, 0, none⟩), .string word, v] w (ShQ W0 g nv mv pv (l ++ namesS word xs) w) := by
  have H := hide h
  have HV := hide hv
  have HX := hide hx
  obtain ⟨ao, c, rfl, _⟩ := hv
  obtain ⟨n, en⟩ : ∃ n, xs.length = n := ⟨_, rfl⟩
  have EN := hide en
  rw [en] at HV hl ⊢
  clear en h hx
  go_enter Tryz.func65, Tryz.ntmps65
  go_wp2
  go_loopw [10] (fun iv wr => NmeR W0 g nv mv pv l word xs w iv wr) (fun iv _ => n - (intOf iv).toNat)
  case atStart => exact ⟨0, by omega, rfl, by rw [List.take_zero, namesS, List.append_nil]; exact H.out, ShK.refl _ _ _⟩
  case round =>
    obtain ⟨i, hi, rfl, S, K⟩ := hrel
    rw [EN.out] at hi
    by_cases hlt : i < n
    · have hlt' : (i : Int) < (n : Int) := by omega
      have hi0 : (0 : Int) ≤ (i : Int) := by omega
      have hix : i < xs.length := by rw [EN.out]; exact hlt
      obtain ⟨ao', c', e1, hc1⟩ := HV.out.stays S.out.bel
      injection e1 with e2 e3 e4
      subst e2
      obtain ⟨a, rfl, _, hx⟩ := hc1 i hix
      have HT : Hid (xs.take (i + 1) = xs.take i ++ [xs[i]]) := List.take_succ_eq_append_getElem hix
      have hsx := HX.out _ (List.getElem_mem hix)
      obtain ⟨x, ex⟩ : ∃ x, xs[i] = x := ⟨_, rfl⟩
      rw [ex] at hx HT hsx
      clear e3 e4 hc1 ex
      rcases Nat.eq_zero_or_pos i with h0 | h0
      · have hp : ((i : Int) == 0) = true := by simp; omega
        have HE : Hid (namesS word (xs.take (i + 1)) = namesS word (xs.take i) ++ [word, x]) := by
          show _ = _
          rw [HT.out, h0]
          rfl
        clear h0
        go_wp2_with fail
        refine Calls.mono (shP2 _ ?_ S.out ?_) ?_
        · simp
        · (
  intro y hy;
  simp only [List.mem_cons, List.not_mem_nil, or_false] at hy;
  rcases hy with rfl | rfl | rfl | rfl | rfl <;> first | assumption | omega | decide)
        rintro e z2 ⟨rfl, hs, hk⟩
        have S2 := hide hs
        have K2 := hide (K.out.trans hk)
        clear hs hk hx
        go_wp2
        go_roundw
        case rel => exact ⟨i + 1, by rw [EN.out]; omega, by go_num, by rw [HE.out, ← List.append_assoc]; exact S2.out, K2.out⟩
        case measure => simp [intOf]; omega
      · have hp : ((i : Int) == 0) = false := by simp; omega
        have HE : Hid (namesS word (xs.take (i + 1)) = namesS word (xs.take i) ++ [⟨#[44]⟩, x]) := by
          show _ = _
          rw [HT.out, namesS_snoc _ (fun e => by have := congrArg List.length e; rw [List.length_take] at this; simp only [List.length_nil] at this; omega)]
        clear h0
        go_wp2_with fail
        refine Calls.mono (shP2 _ ?_ S.out ?_) ?_
        · simp
        · (
  intro y hy;
  simp only [List.mem_cons, List.not_mem_nil, or_false] at hy;
  rcases hy with rfl | rfl | rfl | rfl | rfl <;> first | assumption | omega | decide)
        rintro e z2 ⟨rfl, hs, hk⟩
        have S2 := hide hs
        have K2 := hide (K.out.trans hk)
        clear hs hk hx
        go_wp2
        go_roundw
        case rel => exact ⟨i + 1, by rw [EN.out]; omega, by go_num, by rw [HE.out, ← List.append_assoc]; exact S2.out, K2.out⟩
        case measure => simp [intOf]; omega
    · have hlt' : ¬ (i : Int) < (n : Int) := by omega
      have HE : Hid (xs.take i = xs) := List.take_of_length_le (by rw [EN.out]; omega)
      rw [HE.out] at S
      go_wp2
      go_end0
      exact ⟨rfl, S.out, K.out⟩

set_option maxRecDepth 100000 in
set_option maxHeartbeats 2000000 in
theorem shDecl_any {W0 : World} {g : Nat} {nv mv pv : Value} (word : ByteArray) (v : Value) (xs : List ByteArray) (hv : StrsAt W0 v xs) (hl : xs.length ≤ 1048576) (hx : ∀ x ∈ xs, x.size ≤ 1048576) (hw : word.size ≤ 1048576) (l : List ByteArray) (w : World) (h : ShP W0 g nv mv pv l w) :
    Calls Tryz.prog 63 #[.pointer (some ⟨g, 0, none⟩), .string word, v] w (ShQ W0 g nv mv pv (l ++ declS word xs) w) := by
  have CN := hide (shNames_any word v xs hv hl hx hw l w h)
  obtain ⟨ao, c, rfl, _⟩ := hv
  by_cases h0 : xs.length = 0
  · have HE : Hid (declS word xs = namesS word xs) := by
      show _ = _
      rw [declS, if_pos h0, List.length_eq_zero_iff.1 h0]
      rfl
    have h0' : ¬ (0 : Int) < (xs.length : Int) := by omega
    rw [HE.out]
    obtain ⟨n, en⟩ : ∃ n, xs.length = n := ⟨_, rfl⟩
    rw [en] at CN h0' ⊢
    clear hx h h0 en hl
    go_enter Tryz.func63, Tryz.ntmps63
    go_wp2_with fail
    refine (unhide CN).mono ?_
    rintro e z1 ⟨rfl, hs, hk⟩
    have S1 := hide hs
    have K1 := hide hk
    clear hs hk CN
    go_wp2
    go_end0
    exact ⟨rfl, S1.out, K1.out⟩
  · have HE : Hid (declS word xs = namesS word xs ++ [⟨#[59]⟩]) := by show _ = _; rw [declS, if_neg h0]
    have h0' : (0 : Int) < (xs.length : Int) := by omega
    rw [HE.out, ← List.append_assoc]
    obtain ⟨n, en⟩ : ∃ n, xs.length = n := ⟨_, rfl⟩
    rw [en] at CN h0' ⊢
    clear hx h h0 en hl
    go_enter Tryz.func63, Tryz.ntmps63
    go_wp2_with fail
    refine (unhide CN).mono ?_
    rintro e z1 ⟨rfl, hs, hk⟩
    have S1 := hide hs
    have K1 := hide hk
    clear hs hk CN
    go_wp2_with fail
    refine Calls.mono (shP1 _ ?_ S1.out ?_) ?_
    · simp
    · (
  intro y hy;
  simp only [List.mem_cons, List.not_mem_nil, or_false] at hy;
  rcases hy with rfl | rfl | rfl | rfl | rfl <;> first | assumption | omega | decide)
    rintro e z2 ⟨rfl, hs, hk⟩
    have S2 := hide hs
    have K2 := hide (K1.out.trans hk)
    clear hs hk
    go_wp2
    go_end0
    exact ⟨rfl, S2.out, K2.out⟩

/-- Lists of names that may be shown. -/
def NmOk (xs : List ByteArray) : Prop := xs.length ≤ 3 ∧ ∀ x ∈ xs, x.size ≤ 8
theorem NmOk.big {xs : List ByteArray} (h : NmOk xs) : xs.length ≤ 1048576 ∧ ∀ x ∈ xs, x.size ≤ 1048576 := ⟨Nat.le_trans h.1 (by decide), fun x hx => Nat.le_trans (h.2 x hx) (by decide)⟩
/-- A body that may be shown. -/
def BdOk (W0 : World) (g : Nat) (nv mv pv : Value) (ns : List Nd) (y : Int) : Prop := ShF W0 g nv mv pv 64 y (shS ns 10 y.toNat)
set_option maxRecDepth 100000 in
set_option maxHeartbeats 2000000 in
theorem shProcess_any {W0 : World} {g : Nat} {nv mv pv : Value} {ns : List Nd} (p : Pr) (uv vv : Value) (hu : StrsAt W0 uv p.uses) (hv : StrsAt W0 vv p.vars) (hn : p.name.size ≤ 8) (ku : NmOk p.uses) (kv : NmOk p.vars) (CB : BdOk W0 g nv mv pv ns p.body) (l : List ByteArray) (w : World) (h : ShP W0 g nv mv pv l w) :
    Calls Tryz.prog 42 #[.pointer (some ⟨g, 0, none⟩), .agg #[.string p.name, uv, vv, .int .i64 p.body]] w (ShQ W0 g nv mv pv (l ++ prcS ns p) w) := by
  have CU := fun l w h => shNames_any (W0 := W0) (g := g) (nv := nv) (mv := mv) (pv := pv) ⟨#[117, 115, 101, 115]⟩ uv p.uses hu ku.big.1 ku.big.2 (by decide) l w h
  have CD := fun l w h => shDecl_any (W0 := W0) (g := g) (nv := nv) (mv := mv) (pv := pv) ⟨#[118, 97, 114]⟩ vv p.vars hv kv.big.1 kv.big.2 (by decide) l w h
  have hb2 : Below w.heap.size w (w.alloc (.cells #[.string p.name, uv, vv, .int .i64 p.body] 51)) := (Below.refl _ _).alloc (Nat.le_refl _) _
  have S0 := hide (h.stays hb2)
  have K0 : Hid (ShK W0.heap.size g w (w.alloc (.cells #[.string p.name, uv, vv, .int .i64 p.body] 51))) := ShK.of hb2 h.bel.size
  have X0 := hide (Box.made w #[.string p.name, uv, vv, .int .i64 p.body] 51)
  obtain ⟨uo, uc, rfl, _⟩ := hu
  obtain ⟨vo, vc, rfl, _⟩ := hv
  unfold prcS
  unfold BdOk at CB
  clear hb2 h ku kv
  go_enter Tryz.func42, Tryz.ntmps42
  have p0 := Lib.cell_of_heap X0.out 0
  have p1 := Lib.cell_of_heap X0.out 1
  have p2 := Lib.cell_of_heap X0.out 2
  have p3 := Lib.cell_of_heap X0.out 3
  simp at p0 p1 p2 p3
  go_wp2_with fail
  refine Calls.mono (shP2 _ ?_ S0.out ?_) ?_
  · simp
  · (
  intro y hy;
  simp only [List.mem_cons, List.not_mem_nil, or_false] at hy;
  rcases hy with rfl | rfl | rfl | rfl | rfl <;> first | assumption | omega | decide)
  rintro e z1 ⟨rfl, hs, hk⟩
  have S1 := hide hs
  have K1 := hide (K0.out.trans hk)
  have X1 := hide (X0.out.sh S0.out.st hk (by decide) (by decide))
  clear hs hk S0 K0 X0 p0 p1 p2 p3
  have p0 := Lib.cell_of_heap X1.out 0
  have p1 := Lib.cell_of_heap X1.out 1
  have p2 := Lib.cell_of_heap X1.out 2
  have p3 := Lib.cell_of_heap X1.out 3
  simp at p0 p1 p2 p3
  go_wp2_with fail
  refine (CU _ _ S1.out).mono ?_
  rintro e z2 ⟨rfl, hs, hk⟩
  have S2 := hide hs
  have K2 := hide (K1.out.trans hk)
  have X2 := hide (X1.out.sh S1.out.st hk (by decide) (by decide))
  clear hs hk S1 K1 X1 p0 p1 p2 p3
  have p0 := Lib.cell_of_heap X2.out 0
  have p1 := Lib.cell_of_heap X2.out 1
  have p2 := Lib.cell_of_heap X2.out 2
  have p3 := Lib.cell_of_heap X2.out 3
  simp at p0 p1 p2 p3
  go_wp2_with fail
  refine Calls.mono (shP1 _ ?_ S2.out ?_) ?_
  · simp
  · (
  intro y hy;
  simp only [List.mem_cons, List.not_mem_nil, or_false] at hy;
  rcases hy with rfl | rfl | rfl | rfl | rfl <;> first | assumption | omega | decide)
  rintro e z3 ⟨rfl, hs, hk⟩
  have S3 := hide hs
  have K3 := hide (K2.out.trans hk)
  have X3 := hide (X2.out.sh S2.out.st hk (by decide) (by decide))
  clear hs hk S2 K2 X2 p0 p1 p2 p3
  have p0 := Lib.cell_of_heap X3.out 0
  have p1 := Lib.cell_of_heap X3.out 1
  have p2 := Lib.cell_of_heap X3.out 2
  have p3 := Lib.cell_of_heap X3.out 3
  simp at p0 p1 p2 p3
  go_wp2_with fail
  refine (CD _ _ S3.out).mono ?_
  rintro e z4 ⟨rfl, hs, hk⟩
  have S4 := hide hs
  have K4 := hide (K3.out.trans hk)
  have X4 := hide (X3.out.sh S3.out.st hk (by decide) (by decide))
  clear hs hk S3 K3 X3 p0 p1 p2 p3
  have p0 := Lib.cell_of_heap X4.out 0
  have p1 := Lib.cell_of_heap X4.out 1
  have p2 := Lib.cell_of_heap X4.out 2
  have p3 := Lib.cell_of_heap X4.out 3
  simp at p0 p1 p2 p3
  go_wp2_with fail
  refine (CB _ _ S4.out).mono ?_
  rintro e z5 ⟨rfl, hs, hk⟩
  have S5 := hide hs
  have K5 := hide (K4.out.trans hk)
  have X5 := hide (X4.out.sh S4.out.st hk (by decide) (by decide))
  clear hs hk S4 K4 X4 p0 p1 p2 p3
  have p0 := Lib.cell_of_heap X5.out 0
  have p1 := Lib.cell_of_heap X5.out 1
  have p2 := Lib.cell_of_heap X5.out 2
  have p3 := Lib.cell_of_heap X5.out 3
  simp at p0 p1 p2 p3
  go_wp2_with fail
  refine Calls.mono (shP1 _ ?_ S5.out ?_) ?_
  · simp
  · (
  intro y hy;
  simp only [List.mem_cons, List.not_mem_nil, or_false] at hy;
  rcases hy with rfl | rfl | rfl | rfl | rfl <;> first | assumption | omega | decide)
  rintro e z6 ⟨rfl, hs, hk⟩
  have S6 := hide hs
  have K6 := hide (K5.out.trans hk)
  have X6 := hide (X5.out.sh S5.out.st hk (by decide) (by decide))
  clear hs hk S5 K5 X5 p0 p1 p2 p3
  have p0 := Lib.cell_of_heap X6.out 0
  have p1 := Lib.cell_of_heap X6.out 1
  have p2 := Lib.cell_of_heap X6.out 2
  have p3 := Lib.cell_of_heap X6.out 3
  simp at p0 p1 p2 p3
  go_wp2
  go_end0
  refine ⟨rfl, ?_, K6.out⟩
  have hs := S6.out
  (try simp only [List.append_assoc, List.cons_append, List.nil_append] at hs ⊢)
  exact hs
def EnyR (W0 : World) (g : Nat) (nv mv pv : Value) (l : List ByteArray) (ns : List Nd) (es : List En) (w : World) (iv : Value) (wr : World) : Prop :=
  ∃ i : Nat, i ≤ es.length ∧ iv = .int .i64 i ∧ Hid (ShP W0 g nv mv pv (l ++ (es.take i).flatMap (entS ns)) wr) ∧ Hid (ShK W0.heap.size g w wr)

set_option maxRecDepth 100000 in
set_option maxHeartbeats 4000000 in
theorem shMonitor_any {W0 : World} {g : Nat} {nv mv pv : Value} {ns : List Nd} (m : Mo) (vv qv ev : Value) (hv : StrsAt W0 vv m.vars) (hq : StrsAt W0 qv m.queues) (he : EnsAt W0 ev m.ents) (hn : m.name.size ≤ 8) (kv : NmOk m.vars) (kq : NmOk m.queues) (hel : m.ents.length ≤ 3) (ke : ∀ e ∈ m.ents, e.name.size ≤ 8 ∧ e.param.size ≤ 8 ∧ BdOk W0 g nv mv pv ns e.body) (l : List ByteArray) (w : World) (h : ShP W0 g nv mv pv l w) :
    Calls Tryz.prog 41 #[.pointer (some ⟨g, 0, none⟩), .agg #[.string m.name, vv, qv, ev]] w (ShQ W0 g nv mv pv (l ++ monS ns m) w) := by
  have CV := fun l w h => shDecl_any (W0 := W0) (g := g) (nv := nv) (mv := mv) (pv := pv) ⟨#[118, 97, 114]⟩ vv m.vars hv kv.big.1 kv.big.2 (by decide) l w h
  have CQ := fun l w h => shDecl_any (W0 := W0) (g := g) (nv := nv) (mv := mv) (pv := pv) ⟨#[113, 117, 101, 117, 101]⟩ qv m.queues hq kq.big.1 kq.big.2 (by decide) l w h
  have hb2 : Below w.heap.size w (w.alloc (.cells #[.string m.name, vv, qv, ev] 45)) := (Below.refl _ _).alloc (Nat.le_refl _) _
  have S0 := hide (h.stays hb2)
  have K0 : Hid (ShK W0.heap.size g w (w.alloc (.cells #[.string m.name, vv, qv, ev] 45))) := ShK.of hb2 h.bel.size
  have X0 := hide (Box.made w #[.string m.name, vv, qv, ev] 45)
  have HE := hide he
  have KE := hide ke
  obtain ⟨vo, vc, rfl, _⟩ := hv
  obtain ⟨qo, qc, rfl, _⟩ := hq
  obtain ⟨eo, ec, rfl, _⟩ := he
  obtain ⟨n, en⟩ : ∃ n, m.ents.length = n := ⟨_, rfl⟩
  have EN := hide en
  rw [en] at HE X0 S0 K0 hel ⊢
  unfold monS
  clear hb2 h kv kq ke en
  go_enter Tryz.func41, Tryz.ntmps41
  have p0 := Lib.cell_of_heap X0.out 0
  have p1 := Lib.cell_of_heap X0.out 1
  have p2 := Lib.cell_of_heap X0.out 2
  have p3 := Lib.cell_of_heap X0.out 3
  simp at p0 p1 p2 p3
  go_wp2_with fail
  refine Calls.mono (shP3 _ ?_ S0.out ?_) ?_
  · simp
  · (
  intro y hy;
  simp only [List.mem_cons, List.not_mem_nil, or_false] at hy;
  rcases hy with rfl | rfl | rfl | rfl | rfl <;> first | assumption | omega | decide)
  rintro e z1 ⟨rfl, hs, hk⟩
  have S1 := hide hs
  have K1 := hide (K0.out.trans hk)
  have X1 := hide (X0.out.sh S0.out.st hk (by decide) (by decide))
  clear hs hk S0 K0 X0 p0 p1 p2 p3
  have p0 := Lib.cell_of_heap X1.out 0
  have p1 := Lib.cell_of_heap X1.out 1
  have p2 := Lib.cell_of_heap X1.out 2
  have p3 := Lib.cell_of_heap X1.out 3
  simp at p0 p1 p2 p3
  go_wp2_with fail
  refine (CV _ _ S1.out).mono ?_
  rintro e z2 ⟨rfl, hs, hk⟩
  have S2 := hide hs
  have K2 := hide (K1.out.trans hk)
  have X2 := hide (X1.out.sh S1.out.st hk (by decide) (by decide))
  clear hs hk S1 K1 X1 p0 p1 p2 p3
  have p0 := Lib.cell_of_heap X2.out 0
  have p1 := Lib.cell_of_heap X2.out 1
  have p2 := Lib.cell_of_heap X2.out 2
  have p3 := Lib.cell_of_heap X2.out 3
  simp at p0 p1 p2 p3
  go_wp2_with fail
  refine (CQ _ _ S2.out).mono ?_
  rintro e z3 ⟨rfl, hs, hk⟩
  have S3 := hide hs
  have K3 := hide (K2.out.trans hk)
  have X3 := hide (X2.out.sh S2.out.st hk (by decide) (by decide))
  clear hs hk S2 K2 X2 p0 p1 p2 p3
  have p0 := Lib.cell_of_heap X3.out 0
  have p1 := Lib.cell_of_heap X3.out 1
  have p2 := Lib.cell_of_heap X3.out 2
  have p3 := Lib.cell_of_heap X3.out 3
  simp at p0 p1 p2 p3
  go_wp2
  clear p0 p1 p2 p3 X3 CV CQ
  obtain ⟨L, eL⟩ : ∃ L, L = l ++ [⟨#[109, 111, 110, 105, 116, 111, 114]⟩, m.name, ⟨#[59]⟩] ++ declS ⟨#[118, 97, 114]⟩ m.vars ++ declS ⟨#[113, 117, 101, 117, 101]⟩ m.queues := ⟨_, rfl⟩
  rw [← eL] at S3
  have EL : Hid (l ++ (⟨#[109, 111, 110, 105, 116, 111, 114]⟩ :: m.name :: ⟨#[59]⟩ :: (declS ⟨#[118, 97, 114]⟩ m.vars ++ (declS ⟨#[113, 117, 101, 117, 101]⟩ m.queues ++ (m.ents.flatMap (entS ns) ++ [⟨#[101, 110, 100]⟩, ⟨#[59]⟩])))) = L ++ m.ents.flatMap (entS ns) ++ [⟨#[101, 110, 100]⟩, ⟨#[59]⟩]) := by
    show _ = _
    rw [eL]
    simp only [List.append_assoc, List.cons_append, List.nil_append]
  clear eL
  go_loopw [22] (fun iv wr => EnyR W0 g nv mv pv L ns m.ents w iv wr) (fun iv _ => n - (intOf iv).toNat)
  case atStart => exact ⟨0, by omega, rfl, by rw [List.take_zero, List.flatMap_nil, List.append_nil]; exact S3.out, K3.out⟩
  case round =>
    clear S3 K3
    obtain ⟨i, hi, rfl, S, K⟩ := hrel
    rw [EN.out] at hi
    by_cases hlt : i < n
    · have hlt' : (i : Int) < (n : Int) := by omega
      have hi0 : (0 : Int) ≤ (i : Int) := by omega
      have hix : i < m.ents.length := by rw [EN.out]; exact hlt
      obtain ⟨ao', c', e1, hc1⟩ := HE.out.stays S.out.bel
      injection e1 with e2 e3 e4
      subst e2
      obtain ⟨a, rfl, _, hx⟩ := hc1 i hix
      obtain ⟨r, hra⟩ : ∃ r, a.add (i * 3) = r := ⟨_, rfl⟩
      rw [hra] at hx
      obtain ⟨d0, d1, d2⟩ := hx
      have HT : Hid ((m.ents.take (i + 1)).flatMap (entS ns) = (m.ents.take i).flatMap (entS ns) ++ entS ns m.ents[i]) := by
        show _ = _
        rw [List.take_succ_eq_append_getElem hix, List.flatMap_append, List.flatMap_singleton]
      obtain ⟨hn1, hn2, CB⟩ := KE.out _ (List.getElem_mem hix)
      unfold BdOk at CB
      obtain ⟨x, ex⟩ : ∃ x, m.ents[i] = x := ⟨_, rfl⟩
      simp only [ex] at d0 d1 d2 HT hn1 hn2 CB
      clear e3 e4 hc1 ex
      have hb2 : Below wr.heap.size wr (wr.alloc (.cells #[.string x.name, .string x.param, .int .i64 x.body] 48)) := (Below.refl _ _).alloc (Nat.le_refl _) _
      have S0 := hide (S.out.stays hb2)
      have K0 := hide (K.out.trans (ShK.of (g := g) hb2 S.out.bel.size))
      have X0 := hide (Box.made wr #[.string x.name, .string x.param, .int .i64 x.body] 48)
      clear hb2
      have p0 := Lib.cell_of_heap X0.out 0
      have p1 := Lib.cell_of_heap X0.out 1
      have p2 := Lib.cell_of_heap X0.out 2
      simp at p0 p1 p2
      clear S K
      go_wp2_with fail
      refine Calls.mono (shP5 _ ?_ S0.out ?_) ?_
      · simp
      · (
  intro y hy;
  simp only [List.mem_cons, List.not_mem_nil, or_false] at hy;
  rcases hy with rfl | rfl | rfl | rfl | rfl <;> first | assumption | omega | decide)
      rintro e z1 ⟨rfl, hs, hk⟩
      have S1 := hide hs
      have K1 := hide (K0.out.trans hk)
      have X1 := hide (X0.out.sh S0.out.st hk (by decide) (by decide))
      clear hs hk S0 K0 X0 p0 p1 p2
      have p0 := Lib.cell_of_heap X1.out 0
      have p1 := Lib.cell_of_heap X1.out 1
      have p2 := Lib.cell_of_heap X1.out 2
      simp at p0 p1 p2
      clear d0 d1 d2
      go_wp2_with fail
      refine (CB _ _ S1.out).mono ?_
      rintro e z2 ⟨rfl, hs, hk⟩
      have S2 := hide hs
      have K2 := hide (K1.out.trans hk)
      have X2 := hide (X1.out.sh S1.out.st hk (by decide) (by decide))
      clear hs hk S1 K1 X1 p0 p1 p2
      have p0 := Lib.cell_of_heap X2.out 0
      have p1 := Lib.cell_of_heap X2.out 1
      have p2 := Lib.cell_of_heap X2.out 2
      simp at p0 p1 p2
      go_wp2_with fail
      refine Calls.mono (shP1 _ ?_ S2.out ?_) ?_
      · simp
      · (
  intro y hy;
  simp only [List.mem_cons, List.not_mem_nil, or_false] at hy;
  rcases hy with rfl | rfl | rfl | rfl | rfl <;> first | assumption | omega | decide)
      rintro e z3 ⟨rfl, hs, hk⟩
      have S3 := hide hs
      have K3 := hide (K2.out.trans hk)
      have X3 := hide (X2.out.sh S2.out.st hk (by decide) (by decide))
      clear hs hk S2 K2 X2 p0 p1 p2
      have p0 := Lib.cell_of_heap X3.out 0
      have p1 := Lib.cell_of_heap X3.out 1
      have p2 := Lib.cell_of_heap X3.out 2
      simp at p0 p1 p2
      go_wp2
      go_roundw
      case rel =>
        refine ⟨i + 1, by rw [EN.out]; omega, by go_num, ?_, K3.out⟩
        rw [HT.out, entS]
        have hs := S3.out
        simp only [List.append_assoc, List.cons_append, List.nil_append] at hs ⊢
        exact hs
      case measure => simp [intOf]; omega
    · have hlt' : ¬ (i : Int) < (n : Int) := by omega
      have HX : Hid (m.ents.take i = m.ents) := List.take_of_length_le (by rw [EN.out]; omega)
      rw [HX.out] at S
      go_wp2_with fail
      refine Calls.mono (shP2 _ ?_ S.out ?_) ?_
      · simp
      · (
  intro y hy;
  simp only [List.mem_cons, List.not_mem_nil, or_false] at hy;
  rcases hy with rfl | rfl | rfl | rfl | rfl <;> first | assumption | omega | decide)
      rintro e z2 ⟨rfl, hs, hk⟩
      have S2 := hide hs
      have K2 := hide (K.out.trans hk)
      clear hs hk
      go_wp2
      go_end0
      exact ⟨rfl, by rw [EL.out]; exact S2.out, K2.out⟩
end Go.Proofs.YtdfahpachbhglaaGreatDoor

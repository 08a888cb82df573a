/-
  Showing, by the program: the shower, a struct with a Builder in its midst: what is written into it.
-/
import Derived.Test.YtdfahpachbhglaaGreatDoorChecked
import Derived.Test.YtdfahpachbhglaaGreatDoorAidCard
import Derived.Lib.Builder
import Derived.Lib.FrozenHead2
import Derived.Lib.OthersKept
import Derived.Lib.BufferKept
import Derived.Lib.UnsafeStr
import Derived.WalkKit
import Derived.BigQuiet
import Derived.WalkSmall
import Derived.Test.YtdfahpachbhglaaGreatDoorSgP
import Derived.Below
namespace Go.Proofs.YtdfahpachbhglaaGreatDoor
open Go.RowKit

/-- A shower in its block: a program, the most that may be written, the Builder (what it holds: bs), whether it failed. -/
def ShB (B g : Nat) (nv mv pv av : Value) (bs : List Value) (f : Bool) (w : World) : Prop :=
  B ≤ g ∧ ∃ v, w.heap[g]? = some (.cells #[nv, mv, pv, .int .i64 1500, av, v, .bool f] 61 (0, 0)) ∧ w.ownsRowF B 5 1 v bs.length bs ∧ v.ownBlock ≠ some g
def ShI (B g : Nat) (nv mv pv : Value) (bs : List Value) (f : Bool) (w : World) : Prop :=
  ShB B g nv mv pv (.pointer none) bs f w ∨ ShB B g nv mv pv (.pointer (some ⟨g, 4, none⟩)) bs f w
/-- What a call leaves beside the shower. -/
def ShK (B g : Nat) (w w' : World) : Prop := Below B w w' ∧ Lib.OthersKept 5 (some g) w w'
theorem ShK.refl (B g : Nat) (w : World) : ShK B g w w := ⟨Below.refl _ _, Lib.OthersKept.refl _ _ _⟩
theorem ShK.trans {B g : Nat} {w w' w'' : World} (h : ShK B g w w') (k : ShK B g w' w'') : ShK B g w w'' := ⟨h.1.trans k.1, h.2.trans k.2⟩
theorem ShB.lt {B g : Nat} {nv mv pv av : Value} {bs : List Value} {f : Bool} {w : World} (h : ShB B g nv mv pv av bs f w) : g < w.heap.size := by
  obtain ⟨_, v, hb, _⟩ := h
  rcases Nat.lt_or_ge g w.heap.size with h' | h'
  · exact h'
  · simp [Array.getElem?_eq_none h'] at hb
theorem ShI.lt {B g : Nat} {nv mv pv : Value} {bs : List Value} {f : Bool} {w : World} (h : ShI B g nv mv pv bs f w) : g < w.heap.size := h.elim ShB.lt ShB.lt
theorem ShB.stays {B g : Nat} {nv mv pv av : Value} {bs : List Value} {f : Bool} {w w' : World} (h : ShB B g nv mv pv av bs f w) (hb : Below w.heap.size w w') : ShB B g nv mv pv av bs f w' := by
  have hlt := h.lt
  obtain ⟨hB, v, hk, hown, hne⟩ := h
  refine ⟨hB, v, (hb.block g hlt).trans hk, ⟨hown.1, ?_⟩, hne⟩
  rcases hown.2 with hn | ⟨k, cap, cur, fz, rfl, hbk, hgg, rest⟩
  · exact .inl hn
  · refine .inr ⟨k, cap, cur, fz, rfl, hbk, (hb.block k ?_).trans hgg, rest⟩
    rcases Nat.lt_or_ge k w.heap.size with h' | h'
    · exact h'
    · simp [Array.getElem?_eq_none h'] at hgg
theorem ShI.stays {B g : Nat} {nv mv pv : Value} {bs : List Value} {f : Bool} {w w' : World} (h : ShI B g nv mv pv bs f w) (hb : Below w.heap.size w w') : ShI B g nv mv pv bs f w' := h.imp (·.stays hb) (·.stays hb)
theorem ShK.of {B g : Nat} {w w' : World} (hb : Below w.heap.size w w') (hB : B ≤ w.heap.size) : ShK B g w w' := ⟨hb.mono hB, (Lib.OthersKept.refl _ _ _).below hb⟩
theorem sizeBuilderS : (Tryz.prog.info? 59).map (·.size) = some 2 := by kernel_rfl
theorem liesBuilderS : liesAt Tryz.prog Tryz.prog.depth 61 (7 / Tryz.prog.cellsOf 61) 4 59 1 = true := by kernel_rfl
theorem infoByteS : (Tryz.prog.info? 5).map (fun i => (i.zero, i.size, i.bytes)) = some (some (.int .u8 0), 1, 1) := by kernel_rfl
theorem ShB.setCell {B g : Nat} {nv mv pv av v v' : Value} {bs : List Value} {f : Bool} {w : World} {i : Nat} {u : Value} {av' : Value} {f' : Bool} (hB : B ≤ g) (hk : w.heap[g]? = some (.cells #[nv, mv, pv, .int .i64 1500, av, v, .bool f] 61 (0, 0)))
    (hc : (#[nv, mv, pv, .int .i64 1500, av, v, .bool f] : Array Value).setIfInBounds i u = #[nv, mv, pv, .int .i64 1500, av', v', .bool f']) (hown : w.ownsRowF B 5 1 v' bs.length bs) : ShB B g nv mv pv av' bs f' (w.setCell ⟨g, i, none⟩ u) := by
  have hne := Lib.ownBlock_neF hown hk (by decide)
  refine ⟨hB, v', ?_, ?_, hne⟩
  · simp only [World.setCell, Array.getElem?_modify, hk, if_true, Option.map_some]
    rw [← hc]
    rfl
  · exact hown.kept (row := some g) ⟨rfl, rfl, rfl, by simp [World.setCell], fun k _ hk => Below.heap_setCell _ _ _ _ (fun e => hk (by simp [e]))⟩ (Or.inr hne)

set_option maxHeartbeats 1000000 in
set_option maxRecDepth 100000 in
theorem shCheck_any (B g : Nat) (nv mv pv : Value) (bs : List Value) (f : Bool) (w : World) (h : ShI B g nv mv pv bs f w) :
    Calls Tryz.prog 90 #[.pointer (some ⟨g, 4, none⟩)] w fun e w' => e = .returned (.tuple #[]) ∧ ShB B g nv mv pv (.pointer (some ⟨g, 4, none⟩)) bs f w' ∧ ShK B g w w' := by
  obtain ⟨j, hj, hjs⟩ := Option.map_eq_some_iff.1 sizeBuilderS
  rcases h with h | h
  · obtain ⟨hB, v, hk, hown, hne⟩ := h
    have c0 : w.cell? ⟨g, 4, none⟩ = some (.pointer none) := by rw [Lib.cell_of_heap hk]; rfl
    have f0 : w.frozen? ⟨g, 4, none⟩ = false := Lib.frozen_of_heap hk 4
    have hsh : w.shape? g = some (61, 7) := by simp [World.shape?, hk]
    have H := hide hk
    have O := hide hown
    clear hk hown hne
    go_enter Tryz.func90, Tryz.ntmps90
    go_wp2
    rw [Lib.run_to_unsafe w ⟨g, 4, none⟩ Tryz.underlying56 Tryz.underlying169 hj (by rw [hjs]; decide) hsh (show 4 < 7 by decide)]
    simp only [Result.andThen]
    rw [Oper.upon_value]
    go_wp2
    rw [run_callFunc_extern Tryz.func107 (by kernel_rfl) (by kernel_rfl) (by kernel_rfl) (e := Extern.AbiNoEscape.same) (by kernel_rfl)]
    rw [Lib.run_noEscape]
    simp only [Result.andThen]
    rw [Oper.upon_value]
    go_wp2
    rw [Lib.run_from_unsafe w ⟨g, 4, none⟩ Tryz.underlying169 Tryz.underlying56 hj hsh liesBuilderS]
    simp only [Result.andThen]
    rw [Oper.upon_value]
    go_wp2
    go_end0
    exact ⟨rfl, ShB.setCell hB H.out rfl O.out, (Below.refl B w).setCell (p := ⟨g, 4, none⟩) hB _, (Lib.OthersKept.refl _ _ w).setCell ⟨g, 4, none⟩ rfl _⟩
  · have H := hide h
    obtain ⟨hB, v, hk, hown, hne⟩ := h
    have c0 : w.cell? ⟨g, 4, none⟩ = some (.pointer (some ⟨g, 4, none⟩)) := by rw [Lib.cell_of_heap hk]; rfl
    clear hk hown hne
    go_enter Tryz.func90, Tryz.ntmps90
    go_wp2
    rw [Lib.run_neq_ptr_same w _ Tryz.underlying56 hj]
    go_wp2
    go_end0
    exact ⟨rfl, H.out, ShK.refl _ _ _⟩

set_option maxHeartbeats 2000000 in
set_option maxRecDepth 100000 in
theorem shWrite_any (B g : Nat) (nv mv pv : Value) (bs : List Value) (f : Bool) (s : ByteArray) (w : World) (h : ShI B g nv mv pv bs f w) (hlen : bs.length + s.size ≤ 1048576) (hBw : B ≤ w.heap.size) :
    Calls Tryz.prog 67 #[.pointer (some ⟨g, 4, none⟩), .string s] w fun e w' => e = .returned (.tuple #[.int .i64 s.size, .nilIface]) ∧ ShI B g nv mv pv (bs ++ Lib.strCells s) f w' ∧ ShK B g w w' := by
  obtain ⟨i0, hi, hz0, hz1, hz2⟩ := info_parts infoByteS
  go_enter Tryz.func67, Tryz.ntmps67
  go_wp2_with (go_at_call 90; refine (shCheck_any B g nv mv pv bs f _ h).mono ?_)
  rintro e w1 ⟨rfl, h1, hk1⟩
  have hlt := h1.lt
  obtain ⟨hB, v, hbk, hown, hne⟩ := h1
  have c0 : w1.cell? ⟨g, 4, none⟩ = some (.pointer (some ⟨g, 4, none⟩)) := by rw [Lib.cell_of_heap hbk]; rfl
  have c1 : w1.cell? ⟨g, 5, none⟩ = some v := by rw [Lib.cell_of_heap hbk]; rfl
  go_wp2_with (at_builtin; refine Lib.wpList_append_own_stringF _ rfl _ _ 57 9 rfl B 5 i0 Tryz.underlying57 Tryz.underlying9 hi hz0 hz1 hz2 _ _ _ rfl hown s rfl ?c3 ?c4 ?c5 ?_)
  case c3 => unfold maxLen; omega
  case c4 => omega
  case c5 => have := hk1.1.size; omega
  intro v' w2 hown' hgrow _
  have hb2 : w2.heap[g]? = some (.cells #[nv, mv, pv, .int .i64 1500, .pointer (some ⟨g, 4, none⟩), v, .bool f] 61 (0, 0)) := by
    rw [hgrow.block g hlt (fun e => hne e.symm)]
    exact hbk
  have d0 : w2.cell? ⟨g, 4, none⟩ = some (.pointer (some ⟨g, 4, none⟩)) := by rw [Lib.cell_of_heap hb2]; rfl
  have d1 : w2.cell? ⟨g, 5, none⟩ = some v := by rw [Lib.cell_of_heap hb2]; rfl
  have f1 : w2.frozen? ⟨g, 5, none⟩ = false := Lib.frozen_of_heap hb2 5
  obtain ⟨ao, n', cap, rfl⟩ : ∃ ao n' cap, v' = .slice ao n' cap := by
    rcases hown'.2 with ⟨hv, _⟩ | ⟨g, cap, cur, fz, hv, _⟩
    · exact ⟨_, _, _, hv⟩
    · exact ⟨_, _, _, hv⟩
  go_wp2
  go_ret2
  refine ⟨rfl, Or.inr ?_, ?_, (hk1.2.grown hgrow (Lib.ownsRowF_kind hown)).setCell ⟨g, 5, none⟩ rfl _⟩
  · exact ShB.setCell (v' := .slice ao n' cap) hB hb2 rfl (by simpa [Lib.strCells_length] using hown')
  · exact (hk1.1.grown hgrow (by have := hk1.1.size; omega) (fun k hk => (hown.lt k hk).1)).setCell (p := ⟨g, 5, none⟩) hB _

set_option maxHeartbeats 1000000 in
theorem shLen_any (B g : Nat) (nv mv pv : Value) (bs : List Value) (f : Bool) (w : World) (h : ShI B g nv mv pv bs f w) :
    Calls Tryz.prog 66 #[.pointer (some ⟨g, 4, none⟩)] w fun e w' => e = .returned (.int .i64 bs.length) ∧ w' = w := by
  obtain ⟨av, v, hk, hown⟩ : ∃ av v, w.heap[g]? = some (.cells #[nv, mv, pv, .int .i64 1500, av, v, .bool f] 61 (0, 0)) ∧ w.ownsRowF B 5 1 v bs.length bs := by
    rcases h with ⟨_, v, hk, hown, _⟩ | ⟨_, v, hk, hown, _⟩
    · exact ⟨_, v, hk, hown⟩
    · exact ⟨_, v, hk, hown⟩
  have c1 : w.cell? ⟨g, 5, none⟩ = some v := by rw [Lib.cell_of_heap hk]; rfl
  obtain ⟨ao, cap, rfl⟩ : ∃ ao cap, v = .slice ao bs.length cap := by
    rcases hown.2 with ⟨hv, hz⟩ | ⟨g, cap, cur, fz, hv, _⟩
    · exact ⟨none, 0, by rw [hv, hz]⟩
    · exact ⟨_, _, hv⟩
  clear hk hown h
  go_enter Tryz.func66, Tryz.ntmps66
  go_wp2
  go_ret
  exact ⟨rfl, rfl⟩
end Go.Proofs.YtdfahpachbhglaaGreatDoor

namespace Go.Proofs.YtdfahpachbhglaaGreatDoor
open Go.RowKit

/-- A sign behind a text, with a blank between. -/
def putJ (t x : ByteArray) : ByteArray := if t.size = 0 then t ++ x else t ++ ⟨#[32]⟩ ++ x
def foldJ (l : List ByteArray) : ByteArray := l.foldl putJ ByteArray.empty
theorem putJ_le (t x : ByteArray) : t.size ≤ (putJ t x).size := by
  unfold putJ
  split <;> simp only [ByteArray.size_append] <;> omega
theorem foldJ_go (t : ByteArray) : ∀ l : List ByteArray, t.size ≤ (l.foldl putJ t).size := by
  intro l
  induction l generalizing t with
  | nil => exact Nat.le_refl _
  | cons a l ih => exact Nat.le_trans (putJ_le t a) (ih (putJ t a))
theorem foldJ_app (a b : List ByteArray) : foldJ (a ++ b) = b.foldl putJ (foldJ a) := List.foldl_append
theorem foldJ_le (a b : List ByteArray) : (foldJ a).size ≤ (foldJ (a ++ b)).size := by rw [foldJ_app]; exact foldJ_go _ _
theorem foldJ_snoc (a : List ByteArray) (x : ByteArray) : foldJ (a ++ [x]) = putJ (foldJ a) x := by rw [foldJ_app]; rfl
theorem strCells_app (a b : ByteArray) : Lib.strCells (a ++ b) = Lib.strCells a ++ Lib.strCells b := by
  simp only [Lib.strCells_eq, Lib.byteCells, ByteArray.data_append, Array.toList_append, List.map_append]
/-- What is written so far: these signs, or it failed, and they would be too long. -/
def ShT (B g : Nat) (nv mv pv : Value) (l : List ByteArray) (w : World) : Prop :=
  ∃ t f, ShI B g nv mv pv (Lib.strCells t) f w ∧ t.size ≤ 1500 ∧ (f = false → t = foldJ l) ∧ (f = true → 1500 < (foldJ l).size)
theorem ShT.stays {B g : Nat} {nv mv pv : Value} {l : List ByteArray} {w w' : World} (h : ShT B g nv mv pv l w) (hb : Below w.heap.size w w') : ShT B g nv mv pv l w' := by
  obtain ⟨t, f, h1, h2⟩ := h
  exact ⟨t, f, h1.stays hb, h2⟩
theorem ShT.lt {B g : Nat} {nv mv pv : Value} {l : List ByteArray} {w : World} (h : ShT B g nv mv pv l w) : g < w.heap.size := by
  obtain ⟨t, f, h1, _⟩ := h
  exact h1.lt
theorem ShT.block {B g : Nat} {nv mv pv : Value} {l : List ByteArray} {w : World} (h : ShT B g nv mv pv l w) : ∃ cs, w.heap[g]? = some (.cells cs 61 (0, 0)) := by
  obtain ⟨t, f, h1 | h1, _⟩ := h
  · obtain ⟨_, v, hk, _⟩ := h1; exact ⟨_, hk⟩
  · obtain ⟨_, v, hk, _⟩ := h1; exact ⟨_, hk⟩
/-- A box of another type stays. -/
theorem Box.sh {B g b : Nat} {cs : Array Value} {T : TypeId} {nv mv pv : Value} {l : List ByteArray} {w w' : World} (h : Box w b cs T) (hs : ShT B g nv mv pv l w) (hk : ShK B g w w') (h5 : T ≠ 5) (hT : T ≠ 61) : Box w' b cs T := by
  refine hk.2 b _ h (fun e => ?_) (fun c fz e => ?_)
  · obtain ⟨cs', hc⟩ := hs.block
    injection e with e
    subst e
    have h' : w.heap[b]? = some (.cells cs T (0, 0)) := h
    rw [h'] at hc
    injection hc with hc
    injection hc with _ hc _
    exact hT hc
  · injection e with _ e _
    exact h5 e
/-- It failed: it fails for good. -/
theorem ShT.fail {B g : Nat} {nv mv pv : Value} {l' : List ByteArray} {w : World} {t : ByteArray} {f : Bool} (h : ShI B g nv mv pv (Lib.strCells t) f w) (h1 : t.size ≤ 1500) (h2 : 1500 < (foldJ l').size) :
    ShT B g nv mv pv l' (w.setCell ⟨g, 6, none⟩ (.bool true)) ∧ ShK B g w (w.setCell ⟨g, 6, none⟩ (.bool true)) := by
  have hB : B ≤ g := h.elim (·.1) (·.1)
  refine ⟨⟨t, true, ?_, h1, (fun e => by cases e), fun _ => h2⟩, (Below.refl B w).setCell (p := ⟨g, 6, none⟩) hB _, (Lib.OthersKept.refl _ _ w).setCell ⟨g, 6, none⟩ rfl _⟩
  rcases h with h | h
  · obtain ⟨hB, v, hk, hown, _⟩ := h
    exact Or.inl (ShB.setCell hB hk rfl hown)
  · obtain ⟨hB, v, hk, hown, _⟩ := h
    exact Or.inr (ShB.setCell hB hk rfl hown)
theorem ShI.cells {B g : Nat} {nv mv pv : Value} {bs : List Value} {f : Bool} {w : World} (h : ShI B g nv mv pv bs f w) :
    w.cell? ⟨g, 0, none⟩ = some nv ∧ w.cell? ⟨g, 1, none⟩ = some mv ∧ w.cell? ⟨g, 2, none⟩ = some pv ∧ w.cell? ⟨g, 3, none⟩ = some (.int .i64 1500) ∧ w.cell? ⟨g, 6, none⟩ = some (.bool f) ∧ w.frozen? ⟨g, 6, none⟩ = false := by
  rcases h with ⟨_, v, hk, _⟩ | ⟨_, v, hk, _⟩
  · exact ⟨Lib.cell_of_heap hk 0, Lib.cell_of_heap hk 1, Lib.cell_of_heap hk 2, Lib.cell_of_heap hk 3, Lib.cell_of_heap hk 6, Lib.frozen_of_heap hk 6⟩
  · exact ⟨Lib.cell_of_heap hk 0, Lib.cell_of_heap hk 1, Lib.cell_of_heap hk 2, Lib.cell_of_heap hk 3, Lib.cell_of_heap hk 6, Lib.frozen_of_heap hk 6⟩

def SgnR (B g : Nat) (nv mv pv : Value) (l xs : List ByteArray) (w : World) (b : Nat) (iv : Value) (wr : World) : Prop :=
  ∃ i : Nat, i ≤ xs.length ∧ iv = .int .i64 i ∧ Hid (ShT B g nv mv pv (l ++ xs.take i) wr) ∧ Hid (ShK B g w wr) ∧ Hid (Box wr b (xs.map Value.string).toArray 9)

set_option maxRecDepth 100000 in
set_option maxHeartbeats 2000000 in
theorem shSigns_any (B g : Nat) (nv mv pv : Value) (l xs : List ByteArray) (b c : Nat) (w : World) (h : ShT B g nv mv pv l w) (hv : Box w b (xs.map Value.string).toArray 9) (hn : xs.length ≤ 1048576) (hx : ∀ x ∈ xs, x.size ≤ 1048576) (hB : B ≤ w.heap.size) :
    Calls Tryz.prog 43 #[.pointer (some ⟨g, 0, none⟩), .slice (some ⟨b, 0, none⟩) xs.length c] w fun e w' => e = .returned (.tuple #[]) ∧ ShT B g nv mv pv (l ++ xs) w' ∧ ShK B g w w' := by
  have H0 := hide h
  have HV := hide hv
  have HX := hide hx
  have HB := hide hB
  obtain ⟨n, en⟩ : ∃ n, xs.length = n := ⟨_, rfl⟩
  have EN := hide en
  rw [en] at hn ⊢
  clear en h hv hx hB
  go_enter Tryz.func43, Tryz.ntmps43
  go_wp2
  go_loopw [9] (fun iv wr => SgnR B g nv mv pv l xs w b iv wr) (fun iv _ => n - (intOf iv).toNat)
  case atStart => exact ⟨0, by omega, rfl, by rw [List.take_zero, List.append_nil]; exact H0.out, ShK.refl _ _ _, HV.out⟩
  case round =>
    obtain ⟨i, hi, rfl, HS, HK, HW⟩ := hrel
    rw [EN.out] at hi
    by_cases hlt : i < n
    · have hlt' : (i : Int) < (n : Int) := by omega
      have hi0 : (0 : Int) ≤ (i : Int) := by omega
      have hix : i < xs.length := by rw [EN.out]; exact hlt
      have HT : Hid (xs.take (i + 1) = xs.take i ++ [xs[i]]) := List.take_succ_eq_append_getElem hix
      have HD : Hid (l ++ xs = (l ++ xs.take i ++ [xs[i]]) ++ xs.drop (i + 1)) := by
        show _ = _
        rw [List.append_assoc, List.append_assoc, ← List.append_assoc (xs.take i), ← HT.out, List.take_append_drop]
      have hc : wr.cell? ⟨b, i, none⟩ = some (.string xs[i]) := by
        rw [Lib.cell_of_heap HW.out]
        simp [hix]
      have hsx := HX.out _ (List.getElem_mem hix)
      obtain ⟨x, ex⟩ : ∃ x, xs[i] = x := ⟨_, rfl⟩
      rw [ex] at hc hsx HT HD
      clear ex
      obtain ⟨t, f, h1, h2, h3, h4⟩ := HS.out
      have HI := hide h1
      obtain ⟨c0, c1, c2, c3, c6, f6⟩ := h1.cells
      have CL := fun W h => hide (shLen_any B g nv mv pv (Lib.strCells t) f W h)
      have CW := fun bs s W h hl hb => hide (shWrite_any B g nv mv pv bs f s W h hl hb)
      have H3 := hide h3
      have H4 := hide h4
      have hln : (Lib.strCells t).length = t.size := Lib.strCells_length t
      rw [hln] at CL
      clear h1 h3 h4
      have FAIL : Hid (1500 < (putJ t x).size → ∀ z, z = wr ∨ (∃ q, z = wr.drewN q) → ShT B g nv mv pv (l ++ xs) (z.setCell ⟨g, 6, none⟩ (.bool true)) ∧ ShK B g w (z.setCell ⟨g, 6, none⟩ (.bool true))) := fun hp z hz => by
        have hb : Below wr.heap.size wr z := by
          rcases hz with rfl | ⟨q, rfl⟩
          · exact Below.refl _ _
          · exact below_drewN (Below.refl _ _) q
        have hlong : 1500 < (foldJ (l ++ xs)).size := by
          rw [HD.out]
          refine Nat.lt_of_lt_of_le ?_ (foldJ_le _ _)
          rw [foldJ_snoc]
          cases f with
          | false => rw [← H3.out rfl]; exact hp
          | true => exact Nat.lt_of_lt_of_le (H4.out rfl) (putJ_le _ _)
        obtain ⟨q1, q2⟩ := ShT.fail (HI.out.stays hb) h2 hlong
        exact ⟨q1, HK.out.trans ((ShK.of hb (Nat.le_trans HB.out HK.out.1.size)).trans q2)⟩
      have GO : Hid (∀ z, (putJ t x).size ≤ 1500 → ShI B g nv mv pv (Lib.strCells (putJ t x)) f z → ShT B g nv mv pv (l ++ xs.take (i + 1)) z) := fun z hp hz => by
        refine ⟨putJ t x, f, hz, hp, fun e => ?_, fun e => ?_⟩
        · rw [HT.out, ← List.append_assoc, foldJ_snoc, ← H3.out e]
        · rw [HT.out, ← List.append_assoc, foldJ_snoc]
          exact Nat.lt_of_lt_of_le (H4.out e) (putJ_le _ _)
      by_cases ht : t.size = 0
      · have ep : putJ t x = t ++ ⟨#[]⟩ ++ x := by
          rw [putJ, if_pos ht]
          congr 1
          exact (ByteArray.append_empty (b := t)).symm
        have es : (putJ t x).size = t.size + x.size := by rw [ep, ByteArray.size_append, ByteArray.size_append]; rfl
        have ht' : ¬ (0 : Int) < (t.size : Int) := by omega
        by_cases hfit : 1500 < (putJ t x).size
        · have HF := hide (FAIL.out hfit)
          rw [es] at hfit
          have hfit' : (1500 : Int) < (t.size : Int) + (x.size : Int) := by omega
          clear FAIL GO ep es CW hfit ht
          go_wp2_with (go_at_call 66; refine (unhide (CL _ HI.out)).mono ?_; rintro e w2 ⟨rfl, rfl⟩)
          go_quiet ((go_at_call 66; exact Calls.quiet_of_same (unhide (CL _ HI.out))))
          all_goals go_wp2
          all_goals (try simp only [Exit.inBlock, Exit.then])
          all_goals refine bodyPost_ret (results_none rfl _ _ _) rfl ?_
          all_goals exact ⟨rfl, HF.out _ (Or.inr ⟨_, rfl⟩)⟩
        · have HG := hide (fun z => GO.out z (by omega))
          have EP := hide ep
          rw [es] at hfit
          have hfit' : ¬ (1500 : Int) < (t.size : Int) + (x.size : Int) := by omega
          have C1 := fun W h hb => CW (Lib.strCells t) ⟨#[]⟩ W h (by rw [hln]; show _ + 0 ≤ _; omega) hb
          have C2 := fun W h hb => CW (Lib.strCells t ++ Lib.strCells ⟨#[]⟩) x W h (by rw [List.length_append, hln, Lib.strCells_length]; show _ + 0 + _ ≤ _; omega) hb
          clear FAIL GO ep es CW hfit ht
          go_wp2_with (go_at_call 66; refine (unhide (CL _ HI.out)).mono ?_; rintro e w2 ⟨rfl, rfl⟩)
          go_quiet ((go_at_call 66; exact Calls.quiet_of_same (unhide (CL _ HI.out))))
          all_goals go_wp2_with fail
          have hb0 : Below w2.heap.size w2 (w2.drewN nq) := below_drewN (Below.refl _ _) nq
          refine (unhide (C1 _ (HI.out.stays hb0) (Nat.le_trans (Nat.le_trans HB.out HK.out.1.size) hb0.size))).mono ?_
          rintro e w3 ⟨rfl, h3, k3⟩
          have HI3 := hide h3
          have HK3 := hide ((ShK.of hb0 (Nat.le_trans HB.out HK.out.1.size)).trans k3)
          clear h3 k3 hb0
          go_wp2_with fail
          refine (unhide (C2 _ HI3.out (Nat.le_trans (Nat.le_trans HB.out HK.out.1.size) HK3.out.1.size))).mono ?_
          rintro e w4 ⟨rfl, h4, k4⟩
          have HK4 := hide (HK3.out.trans k4)
          have HI4 : Hid (ShI B g nv mv pv (Lib.strCells (putJ t x)) f w4) := by
            rw [EP.out, strCells_app, strCells_app]
            exact h4
          have HW4 := hide (HW.out.sh HS.out HK4.out (by decide) (by decide))
          clear h4 k4 HI3 HK3
          go_wp2
          go_roundw
          case rel => exact ⟨i + 1, by rw [EN.out]; omega, by go_num, HG.out _ HI4.out, HK.out.trans HK4.out, HW4.out⟩
          case measure => simp [intOf]; omega
      · have ep : putJ t x = t ++ ⟨#[32]⟩ ++ x := by rw [putJ, if_neg ht]
        have es : (putJ t x).size = t.size + 1 + x.size := by rw [ep, ByteArray.size_append, ByteArray.size_append]; rfl
        have ht' : (0 : Int) < (t.size : Int) := by omega
        by_cases hfit : 1500 < (putJ t x).size
        · have HF := hide (FAIL.out hfit)
          rw [es] at hfit
          have hfit' : (1500 : Int) < (t.size : Int) + 1 + (x.size : Int) := by omega
          clear FAIL GO ep es CW hfit ht
          go_wp2_with (go_at_call 66; refine (unhide (CL _ HI.out)).mono ?_; rintro e w2 ⟨rfl, rfl⟩)
          go_quiet ((go_at_call 66; exact Calls.quiet_of_same (unhide (CL _ HI.out))))
          all_goals go_wp2
          all_goals (try simp only [Exit.inBlock, Exit.then])
          all_goals refine bodyPost_ret (results_none rfl _ _ _) rfl ?_
          all_goals exact ⟨rfl, HF.out _ (Or.inr ⟨_, rfl⟩)⟩
        · have HG := hide (fun z => GO.out z (by omega))
          have EP := hide ep
          rw [es] at hfit
          have hfit' : ¬ (1500 : Int) < (t.size : Int) + 1 + (x.size : Int) := by omega
          have C1 := fun W h hb => CW (Lib.strCells t) ⟨#[32]⟩ W h (by rw [hln]; show _ + 1 ≤ _; omega) hb
          have C2 := fun W h hb => CW (Lib.strCells t ++ Lib.strCells ⟨#[32]⟩) x W h (by rw [List.length_append, hln, Lib.strCells_length]; show _ + 1 + _ ≤ _; omega) hb
          clear FAIL GO ep es CW hfit ht
          go_wp2_with (go_at_call 66; refine (unhide (CL _ HI.out)).mono ?_; rintro e w2 ⟨rfl, rfl⟩)
          go_quiet ((go_at_call 66; exact Calls.quiet_of_same (unhide (CL _ HI.out))))
          all_goals go_wp2_with fail
          have hb0 : Below w2.heap.size w2 (w2.drewN nq) := below_drewN (Below.refl _ _) nq
          refine (unhide (C1 _ (HI.out.stays hb0) (Nat.le_trans (Nat.le_trans HB.out HK.out.1.size) hb0.size))).mono ?_
          rintro e w3 ⟨rfl, h3, k3⟩
          have HI3 := hide h3
          have HK3 := hide ((ShK.of hb0 (Nat.le_trans HB.out HK.out.1.size)).trans k3)
          clear h3 k3 hb0
          go_wp2_with fail
          refine (unhide (C2 _ HI3.out (Nat.le_trans (Nat.le_trans HB.out HK.out.1.size) HK3.out.1.size))).mono ?_
          rintro e w4 ⟨rfl, h4, k4⟩
          have HK4 := hide (HK3.out.trans k4)
          have HI4 : Hid (ShI B g nv mv pv (Lib.strCells (putJ t x)) f w4) := by
            rw [EP.out, strCells_app, strCells_app]
            exact h4
          have HW4 := hide (HW.out.sh HS.out HK4.out (by decide) (by decide))
          clear h4 k4 HI3 HK3
          go_wp2
          go_roundw
          case rel => exact ⟨i + 1, by rw [EN.out]; omega, by go_num, HG.out _ HI4.out, HK.out.trans HK4.out, HW4.out⟩
          case measure => simp [intOf]; omega
    · have hlt' : ¬ (i : Int) < (n : Int) := by omega
      have HF : Hid (ShT B g nv mv pv (l ++ xs) wr) := by
        have h := HS.out
        rw [List.take_of_length_le (by rw [EN.out]; omega)] at h
        exact h
      go_wp2
      go_end0
      exact ⟨rfl, HF.out, HK.out⟩

theorem sh_row {B g : Nat} {nv mv pv : Value} {l : List ByteArray} {w : World} (xs : List ByteArray) (cs : Array Value) (e : (xs.map Value.string).toArray = cs) (h : ShT B g nv mv pv l w) :
    ShT B g nv mv pv l (w.alloc (.cells cs 9)) ∧ Box (w.alloc (.cells cs 9)) w.heap.size (xs.map Value.string).toArray 9 := by
  refine ⟨h.stays ((Below.refl _ _).alloc (Nat.le_refl _) _), ?_⟩
  rw [e]
  exact Box.made w cs 9
theorem shSigns1 (B g c : Nat) (nv mv pv : Value) (l : List ByteArray) (x : ByteArray) (w : World) (h : ShT B g nv mv pv l w) (hx : ∀ y ∈ [x], y.size ≤ 1048576) (hB : B ≤ w.heap.size) :
    Calls Tryz.prog 43 #[.pointer (some ⟨g, 0, none⟩), .slice (some ⟨w.heap.size, 0, none⟩) 1 c] (w.alloc (.cells #[.string x] 9)) fun e w' => e = .returned (.tuple #[]) ∧ ShT B g nv mv pv (l ++ [x]) w' ∧ ShK B g w w' := by
  (
  obtain ⟨h1, h2⟩ := sh_row ([x]) (#[.string x]) rfl h;
  have hb : Below w.heap.size w (w.alloc (.cells (#[.string x]) 9)) := (Below.refl _ _).alloc (Nat.le_refl _) _;
  refine (shSigns_any B g nv mv pv l ([x]) w.heap.size c _ h1 h2 (by simp) hx (Nat.le_trans hB hb.size)).mono ?_;
  rintro e w' ⟨rfl, q1, q2⟩;
  exact ⟨rfl, q1, (ShK.of hb hB).trans q2⟩)
theorem shSigns2 (B g c : Nat) (nv mv pv : Value) (l : List ByteArray) (x y : ByteArray) (w : World) (h : ShT B g nv mv pv l w) (hx : ∀ z ∈ [x, y], z.size ≤ 1048576) (hB : B ≤ w.heap.size) :
    Calls Tryz.prog 43 #[.pointer (some ⟨g, 0, none⟩), .slice (some ⟨w.heap.size, 0, none⟩) 2 c] (w.alloc (.cells #[.string x, .string y] 9)) fun e w' => e = .returned (.tuple #[]) ∧ ShT B g nv mv pv (l ++ [x, y]) w' ∧ ShK B g w w' := by
  (
  obtain ⟨h1, h2⟩ := sh_row ([x, y]) (#[.string x, .string y]) rfl h;
  have hb : Below w.heap.size w (w.alloc (.cells (#[.string x, .string y]) 9)) := (Below.refl _ _).alloc (Nat.le_refl _) _;
  refine (shSigns_any B g nv mv pv l ([x, y]) w.heap.size c _ h1 h2 (by simp) hx (Nat.le_trans hB hb.size)).mono ?_;
  rintro e w' ⟨rfl, q1, q2⟩;
  exact ⟨rfl, q1, (ShK.of hb hB).trans q2⟩)
theorem shSigns3 (B g c : Nat) (nv mv pv : Value) (l : List ByteArray) (x y z : ByteArray) (w : World) (h : ShT B g nv mv pv l w) (hx : ∀ q ∈ [x, y, z], q.size ≤ 1048576) (hB : B ≤ w.heap.size) :
    Calls Tryz.prog 43 #[.pointer (some ⟨g, 0, none⟩), .slice (some ⟨w.heap.size, 0, none⟩) 3 c] (w.alloc (.cells #[.string x, .string y, .string z] 9)) fun e w' => e = .returned (.tuple #[]) ∧ ShT B g nv mv pv (l ++ [x, y, z]) w' ∧ ShK B g w w' := by
  (
  obtain ⟨h1, h2⟩ := sh_row ([x, y, z]) (#[.string x, .string y, .string z]) rfl h;
  have hb : Below w.heap.size w (w.alloc (.cells (#[.string x, .string y, .string z]) 9)) := (Below.refl _ _).alloc (Nat.le_refl _) _;
  refine (shSigns_any B g nv mv pv l ([x, y, z]) w.heap.size c _ h1 h2 (by simp) hx (Nat.le_trans hB hb.size)).mono ?_;
  rintro e w' ⟨rfl, q1, q2⟩;
  exact ⟨rfl, q1, (ShK.of hb hB).trans q2⟩)
theorem shSigns5 (B g c : Nat) (nv mv pv : Value) (l : List ByteArray) (x y z p q : ByteArray) (w : World) (h : ShT B g nv mv pv l w) (hx : ∀ t ∈ [x, y, z, p, q], t.size ≤ 1048576) (hB : B ≤ w.heap.size) :
    Calls Tryz.prog 43 #[.pointer (some ⟨g, 0, none⟩), .slice (some ⟨w.heap.size, 0, none⟩) 5 c] (w.alloc (.cells #[.string x, .string y, .string z, .string p, .string q] 9)) fun e w' => e = .returned (.tuple #[]) ∧ ShT B g nv mv pv (l ++ [x, y, z, p, q]) w' ∧ ShK B g w w' := by
  (
  obtain ⟨h1, h2⟩ := sh_row ([x, y, z, p, q]) (#[.string x, .string y, .string z, .string p, .string q]) rfl h;
  have hb : Below w.heap.size w (w.alloc (.cells (#[.string x, .string y, .string z, .string p, .string q]) 9)) := (Below.refl _ _).alloc (Nat.le_refl _) _;
  refine (shSigns_any B g nv mv pv l ([x, y, z, p, q]) w.heap.size c _ h1 h2 (by simp) hx (Nat.le_trans hB hb.size)).mono ?_;
  rintro e w' ⟨rfl, q1, q2⟩;
  exact ⟨rfl, q1, (ShK.of hb hB).trans q2⟩)
end Go.Proofs.YtdfahpachbhglaaGreatDoor

namespace Go.Proofs.YtdfahpachbhglaaGreatDoor
open Go.RowKit

/-- The texts of the operations, where the program has them. -/
def opTx : List ByteArray := [tx "", tx "+", tx "-", tx "*", tx "/", tx "%", tx "<", tx "=", tx "and", tx "or"]
def OpsAt (w : World) : Prop := ∀ (k : Nat) (t : ByteArray), opTx[k]? = some t → w.cell? ⟨0, k, none⟩ = some (.string t)
theorem OpsAt.stays {B : Nat} {w w' : World} (h : OpsAt w) (hb : Below B w w') (hB : 0 < B) : OpsAt w' := fun k t hk => (hb.cell (p := ⟨0, k, none⟩) hB).trans (h k t hk)

end Go.Proofs.YtdfahpachbhglaaGreatDoor

/-
  Walks: figures of the base 16.
-/
import Derived.Test.YtgbplfahbkdalaaDoorVarW
import Derived.Test.YtgbplfahbkdalaaDoorAidR
import Derived.Deep.RegionHeld3
import Derived.Deep.AppendLies
namespace Go.Proofs.YtgbplfahbkdalaaDoor
open Go.RowKit

/-- The figure of a number below 16. -/
def figI (x : Int) : Int := if x < 10 then 48 + x else 87 + x
theorem figI_lo {x : Int} (h : x < 10) : figI x = 48 + x := by rw [figI, if_pos h]
theorem figI_hi {x : Int} (h : ¬ x < 10) : figI x = 87 + x := by rw [figI, if_neg h]
theorem figI_in {x : Int} (h0 : 0 ≤ x) (h1 : x < 16) : 48 ≤ figI x ∧ figI x ≤ 102 := by unfold figI; split <;> omega

/-- Two figures for each byte. -/
def hexL (l : List UInt8) : List Int := l.flatMap fun b => [figI ((b.toNat : Int) / 16), figI ((b.toNat : Int) % 16)]
theorem hexL_len (l : List UInt8) : (hexL l).length = 2 * l.length := by
  induction l with
  | nil => rfl
  | cons a t ih => simp only [hexL, List.flatMap_cons, List.length_append, List.length_cons] at *; simp at *; omega
theorem hexL_snoc (l : List UInt8) (b : UInt8) : hexL (l ++ [b]) = hexL l ++ [figI ((b.toNat : Int) / 16), figI ((b.toNat : Int) % 16)] := by
  simp [hexL]
theorem take_at (s : ByteArray) (k : Nat) (h : k < s.size) : s.data.toList.take (k + 1) = s.data.toList.take k ++ [s[k]] := by
  rw [List.take_succ_eq_append_getElem (by simpa using h)]; rfl
theorem take_all (s : ByteArray) (k : Nat) (h : s.size ≤ k) : s.data.toList.take k = s.data.toList :=
  List.take_of_length_le (by simpa using h)

theorem index_str {P : Program} {t : TypeId} (ht : P.underlying t = some .string) (s : ByteArray) (k : Nat) (h : k < s.size) (w : World) :
    (Instr.index t (.string s) (.int .i64 (k : Int))).run P w = .ok (.int .u8 (s[k].toNat : Int)) w := by
  simp [go_sem, ht, h]

theorem two_new (w : World) (e : TypeId) (x y : Value) : ∀ j u, [x, y][j]? = some u → ((w.alloc (.cells #[x, y] e)).drew).cell? ((⟨w.heap.size, 0, none⟩ : Addr).add j) = some u :=
  World.news_of_block (w := (w.alloc (.cells #[x, y] e)).drew) (cs := #[x, y]) (t := e) (fr := (0, 0)) (heap_alloc_new w _)

/-- What the loop keeps: the figures of the first k bytes are there. -/
def HexRel (s : ByteArray) (B : Nat) (w : World) (v i : Value) (wr : World) : Prop :=
  ∃ k : Nat, k ≤ s.size ∧ i = .int .i64 k ∧ wr.ownsRow B 5 1 v (2 * k) ((hexL (s.data.toList.take k)).map (Value.int .u8)) ∧ Below B w wr

theorem HexRel.step {s : ByteArray} {B k c : Nat} {w wr w1 : World} {v' : Value} {o : Obj} (hB : B ≤ wr.heap.size) (hlt : k < s.size) (hc : c = s[k].toNat) (hb : Below B w wr)
    (hown : w1.ownsRow B 5 1 v' (2 * k + 2) ((hexL (s.data.toList.take k)).map (Value.int .u8) ++ [.int .u8 (figI ((c : Int) / 16)), .int .u8 (figI ((c : Int) % 16))])) (hb1 : Below B (wr.alloc o).drew w1) :
    HexRel s B w v' (.int .i64 ((k : Int) + 1)) w1 := by
  refine ⟨k + 1, hlt, by go_num, ?_, ((hb.alloc hB o).drew).trans hb1⟩
  rw [take_at s k hlt, hexL_snoc, ← hc]
  have e : 2 * (k + 1) = 2 * k + 2 := by omega
  rw [e]
  simpa using hown
theorem HexRel.last {s : ByteArray} {B k : Nat} {wr : World} {v : Value} (hk : s.size ≤ k) (hown : wr.ownsRow B 5 1 v (2 * k) ((hexL (s.data.toList.take k)).map (Value.int .u8))) :
    (convert 22 9 v).run Tryd.prog wr = .ok (.string (strOfNums (hexL s.data.toList))) wr := by
  rw [take_all s k hk] at hown
  exact conv_own 22 9 5 Tryd.underlying22 Tryd.underlying5 Tryd.underlying9 hown

end Go.Proofs.YtgbplfahbkdalaaDoor

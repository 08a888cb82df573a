/-
  Walks: figures of the base 16.
-/
import Derived.Test.YtmenkckdabfkcaaVarW
import Derived.Test.YtmenkckdabfkcaaAidR
import Derived.Deep.RegionHeld3
import Derived.Deep.AppendLies
namespace Go.Proofs.Ytmenkckdabfkcaa
open Go.RowKit

/-- The figure of a number below 16. -/
def figI (x : Int) : Int := if x < 10 then 48 + x else 87 + x
theorem figI_lo {x : Int} (h : x < 10) : figI x = 48 + x := by rw [figI, if_pos h]
theorem figI_hi {x : Int} (h : ¬ x < 10) : figI x = 87 + x := by rw [figI, if_neg h]
theorem figI_in {x : Int} (h0 : 0 ≤ x) (h1 : x < 16) : 48 ≤ figI x ∧ figI x ≤ 102 := by unfold figI; split <;> omega

/-- Two figures for each byte. -/
def hexL (l : List UInt8) : List Int := l.flatMap fun b => [figI ((b.toNat : Int) / 16), figI ((b.toNat : Int) % 16)]
theorem hexL_len (l : List UInt8) : (hexL l).length = 2 * l.length := by
  induction l with
  | nil => rfl
  | cons a t ih => simp only [hexL, List.flatMap_cons, List.length_append, List.length_cons] at *; simp at *; omega
theorem hexL_snoc (l : List UInt8) (b : UInt8) : hexL (l ++ [b]) = hexL l ++ [figI ((b.toNat : Int) / 16), figI ((b.toNat : Int) % 16)] := by
  simp [hexL]
theorem take_at (s : ByteArray) (k : Nat) (h : k < s.size) : s.data.toList.take (k + 1) = s.data.toList.take k ++ [s[k]] := by
  rw [List.take_succ_eq_append_getElem (by simpa using h)]; rfl
theorem take_all (s : ByteArray) (k : Nat) (h : s.size ≤ k) : s.data.toList.take k = s.data.toList :=
  List.take_of_length_le (by simpa using h)

theorem index_str {P : Program} {t : TypeId} (ht : P.underlying t = some .string) (s : ByteArray) (k : Nat) (h : k < s.size) (w : World) :
    (Instr.index t (.string s) (.int .i64 (k : Int))).run P w = .ok (.int .u8 (s[k].toNat : Int)) w := by
  simp [go_sem, ht, h]

theorem two_new (w : World) (e : TypeId) (x y : Value) : ∀ j u, [x, y][j]? = some u → ((w.alloc (.cells #[x, y] e)).drew).cell? ((⟨w.heap.size, 0, none⟩ : Addr).add j) = some u :=
  World.news_of_block (w := (w.alloc (.cells #[x, y] e)).drew) (cs := #[x, y]) (t := e) (fr := (0, 0)) (heap_alloc_new w _)

theorem fig_any (x : Int) (w : World) (h0 : 0 ≤ x) (h1 : x < 16) : Calls Try.prog 27 #[.int .i64 x] w fun e w' => e = .returned (.int .u8 (figI x)) ∧ w = w' := by
  by_cases h : x < 10
  · rw [figI_lo h]
    go_enter Try.func27, Try.ntmps27
    go_wp2
    go_ret
    exact ⟨rfl, rfl⟩
  · rw [figI_hi h]
    go_enter Try.func27, Try.ntmps27
    go_wp2
    go_ret
    exact ⟨by congr 2; simp; omega, rfl⟩

/-- What the loop keeps: the figures of the first k bytes are there. -/
def HexRel (s : ByteArray) (B : Nat) (w : World) (v i : Value) (wr : World) : Prop :=
  ∃ k : Nat, k ≤ s.size ∧ i = .int .i64 k ∧ wr.ownsRow B 5 1 v (2 * k) ((hexL (s.data.toList.take k)).map (Value.int .u8)) ∧ Below B w wr

theorem HexRel.step {s : ByteArray} {B k c : Nat} {w wr w1 : World} {v' : Value} {o : Obj} (hB : B ≤ wr.heap.size) (hlt : k < s.size) (hc : c = s[k].toNat) (hb : Below B w wr)
    (hown : w1.ownsRow B 5 1 v' (2 * k + 2) ((hexL (s.data.toList.take k)).map (Value.int .u8) ++ [.int .u8 (figI ((c : Int) / 16)), .int .u8 (figI ((c : Int) % 16))])) (hb1 : Below B (wr.alloc o).drew w1) :
    HexRel s B w v' (.int .i64 ((k : Int) + 1)) w1 := by
  refine ⟨k + 1, hlt, by go_num, ?_, ((hb.alloc hB o).drew).trans hb1⟩
  rw [take_at s k hlt, hexL_snoc, ← hc]
  have e : 2 * (k + 1) = 2 * k + 2 := by omega
  rw [e]
  simpa using hown
theorem HexRel.last {s : ByteArray} {B k : Nat} {wr : World} {v : Value} (hk : s.size ≤ k) (hown : wr.ownsRow B 5 1 v (2 * k) ((hexL (s.data.toList.take k)).map (Value.int .u8))) :
    (convert 36 9 v).run Try.prog wr = .ok (.string (strOfNums (hexL s.data.toList))) wr := by
  rw [take_all s k hk] at hown
  exact conv_own 36 9 5 Try.underlying36 Try.underlying5 Try.underlying9 hown

set_option maxRecDepth 100000 in
set_option maxHeartbeats 1000000 in
theorem specHex_yes (s : ByteArray) (w : World) (hs : s.size ≤ 20000) :
    Calls Try.prog 18 #[.string s] w fun e w' => e = .returned (.tuple #[.string (strOfNums (hexL s.data.toList)), .bool true]) ∧ Below w.heap.size w w' := by
  have hd : decide ((20000 : Int) < (s.size : Int)) = false := by simp; omega
  go_enter Try.func18, Try.ntmps18
  go_wp2
  go_loopw [4, 5] (fun v i wr => HexRel s w.heap.size w v i wr) (fun _ i _ => s.size - (intOf i).toNat)
  case atStart => exact ⟨0, Nat.zero_le _, rfl, ownsRow_empty _ _ _ (Nat.le_refl _), (Below.refl _ _).alloc (Nat.le_refl _) _⟩
  case round =>
    obtain ⟨k, hk, rfl, hown, hb⟩ := hrel
    have hsz := hb.size
    by_cases hlt : k < s.size
    · obtain ⟨c, hc⟩ : ∃ c : Nat, c = s[k].toNat := ⟨_, rfl⟩
      have hb8 : c < 256 := by rw [hc]; exact s[k].toNat_lt
      have hix : ∀ wx : World, (Instr.index 9 (.string s) (.int .i64 (k : Int))).run Try.prog wx = .ok (.int .u8 (c : Int)) wx := fun wx => by
        rw [hc]; exact index_str Try.underlying9 s k hlt wx
      have hw0 : IntKind.i64.wrap (c : Int) = (c : Int) := IntWalk.i64_in _ (by omega)
      have hq : IntKind.i64.wrap ((c : Int) / 16) = (c : Int) / 16 := IntWalk.i64_in _ (by omega)
      have hr : (c : Int).tmod 16 = (c : Int) % 16 := Int.tmod_eq_emod_of_nonneg (by omega)
      have HC := hide hc
      clear hc
      have HN := hide (two_new wr 5 (.int .u8 (figI ((c : Int) / 16))) (.int .u8 (figI ((c : Int) % 16))))
      have HO := hide ((hown.alloc (.cells #[.int .u8 (figI ((c : Int) / 16)), .int .u8 (figI ((c : Int) % 16))] 5)).drew)
      have HB := hide hb
      clear hown hb
      go_wp2
      go_region_held3 (fun w' => True) (trivial)
        ((first | (go_at_call 27; refine (fig_any _ _ ?_ ?_).mono ?_; (omega); (omega); rintro e w1 ⟨rfl, rfl⟩) | (refine step_appn ?_ (.tmp 16) (.tmp 29) 36 ?_ w.heap.size 5 (.int .u8 0) 1 Try.underlying36 Try.info5 rfl _ (2 * k) _ ?_ (unhide HO) ⟨wr.heap.size, 0, none⟩ 2 2 _ ?_ rfl (unhide HN) ?_ ?_ ?_ ?_ ?_; (rfl); (rfl); (rfl); (rfl); (simp [Value.oneCell']); (unfold maxLen; omega); (omega); (simp; omega); intro v' w1 hown1 hb1)))
      all_goals
        have R := hide (HexRel.step hsz hlt HC.out HB.out hown1 hb1)
        clear hown1 hb1
        go_wp2
        go_roundw
        case rel => exact unhide R
        case measure => simp [intOf]; omega
    · have hc := HexRel.last (by omega) hown
      clear hown
      go_wp2
      go_ret2
      exact ⟨rfl, hb⟩
end Go.Proofs.Ytmenkckdabfkcaa

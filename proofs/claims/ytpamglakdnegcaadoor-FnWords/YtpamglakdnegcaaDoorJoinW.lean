/-
  Walks: strings.Join of two texts or more.
-/
import Derived.Test.YtpamglakdnegcaaDoorJoinV
namespace Go.Proofs.YtpamglakdnegcaaDoor
open Go.RowKit

/-- What is joined: a first text, and the others with sep ahead of each. -/
def joinT (sep t : ByteArray) (r : List ByteArray) : ByteArray := r.foldl (fun t y => t ++ sep ++ y) t
theorem joinT_snoc (sep t : ByteArray) (r : List ByteArray) (y : ByteArray) : joinT sep t (r ++ [y]) = joinT sep t r ++ sep ++ y := by unfold joinT; rw [List.foldl_append]; rfl
theorem joinT_take (sep t : ByteArray) (r : List ByteArray) (k : Nat) (h : k < r.length) : joinT sep t (r.take (k + 1)) = joinT sep t (r.take k) ++ sep ++ r[k] := by
  rw [← joinT_snoc, List.take_append_getElem h]
def sizesT (xs : List ByteArray) : Nat := (xs.map ByteArray.size).foldl (· + ·) 0
theorem foldl_addN (l : List Nat) : ∀ a, l.foldl (· + ·) a = a + l.foldl (· + ·) 0 := by
  induction l with
  | nil => intro a; rfl
  | cons b l ih => intro a; rw [List.foldl_cons, List.foldl_cons, ih (a + b), ih (0 + b)]; omega
theorem sizesT_cons (x : ByteArray) (xs : List ByteArray) : sizesT (x :: xs) = x.size + sizesT xs := by
  unfold sizesT
  rw [List.map_cons, List.foldl_cons, foldl_addN]
  omega
theorem sizesT_take (xs : List ByteArray) (k : Nat) (h : k < xs.length) : sizesT (xs.take (k + 1)) = sizesT (xs.take k) + xs[k].size := by
  induction xs generalizing k with
  | nil => simp at h
  | cons x xs ih =>
    cases k with
    | zero => simp [sizesT]
    | succ k =>
      rw [List.take_succ_cons, List.take_succ_cons, sizesT_cons, sizesT_cons, ih k (by simpa using h)]
      simp
      omega
theorem sizesT_le (xs : List ByteArray) (k : Nat) : sizesT (xs.take k) ≤ sizesT xs := by
  induction xs generalizing k with
  | nil => simp [sizesT]
  | cons x xs ih =>
    cases k with
    | zero => simp [sizesT]
    | succ k =>
      rw [List.take_succ_cons, sizesT_cons, sizesT_cons]
      have := ih k
      omega
theorem joinT_size (sep : ByteArray) (r : List ByteArray) : ∀ t, (joinT sep t r).size = t.size + sep.size * r.length + sizesT r := by
  induction r with
  | nil => intro t; simp [joinT, sizesT]
  | cons y r ih =>
    intro t
    have := ih (t ++ sep ++ y)
    unfold joinT at this ⊢
    rw [List.foldl_cons, this, sizesT_cons, ByteArray.size_append, ByteArray.size_append, List.length_cons, Nat.mul_add]
    omega
theorem joinT_le (sep t : ByteArray) (r : List ByteArray) (k : Nat) : (joinT sep t (r.take k)).size ≤ (joinT sep t r).size := by
  rw [joinT_size, joinT_size]
  have h1 := sizesT_le r k
  have h2 : sep.size * (r.take k).length ≤ sep.size * r.length := Nat.mul_le_mul_left _ (by rw [List.length_take]; omega)
  omega
theorem cellsT_app (a b : ByteArray) : Lib.strCells (a ++ b) = Lib.strCells a ++ Lib.strCells b := by
  simp [Lib.strCells]

/-- A Builder that holds this text, under way. -/
def JoB (w : World) (t : ByteArray) (z : World) : Prop := Lib.IsBuilderF 60 5 w.heap.size w.heap.size (Lib.strCells t) z ∧ Below w.heap.size w z

set_option maxHeartbeats 4000000 in
set_option maxRecDepth 1000000 in
theorem join_many (ao c : Nat) (t0 sep : ByteArray) (r : List ByteArray) (w : World) (hcells : ∀ j x, (t0 :: r)[j]? = some x → w.cell? ⟨ao, j, none⟩ = some (.string x)) (hao : ao < w.heap.size)
    (hr : 1 ≤ r.length) (hc : r.length + 1 ≤ c) (hr2 : r.length ≤ 1048576) (hlen : (joinT sep t0 r).size ≤ 100000000) :
    Calls Tryd.prog 18 #[.slice (some ⟨ao, 0, none⟩) (r.length + 1) c, .string sep] w fun e w' => e = .returned (.string (joinT sep t0 r)) ∧ Below w.heap.size w w' := by
  have hsz := joinT_size sep r t0
  obtain ⟨M, hM⟩ : ∃ M, sep.size * r.length = M := ⟨_, rfl⟩
  have hs0 : sizesT (t0 :: r) = t0.size + sizesT r := sizesT_cons _ _
  rw [hM] at hsz
  have hdv : ¬ (9223372036854775807 / (((r.length + 1 : Nat) : Int) - 1) ≤ (sep.size : Int)) := by
    have e : ((r.length + 1 : Nat) : Int) - 1 = (r.length : Int) := by omega
    rw [e]
    have h2 : ((sep.size : Int) + 1) ≤ 9223372036854775807 / (r.length : Int) := by
      rw [Int.le_ediv_iff_mul_le (by omega), Int.add_mul, Int.one_mul]
      have : (sep.size : Int) * (r.length : Int) = ((sep.size * r.length : Nat) : Int) := by simp
      rw [this, hM]
      omega
    omega
  have hprod : wrap64 ((sep.size : Int) * (((r.length + 1 : Nat) : Int) - 1)) = (M : Int) := by
    have e : ((r.length + 1 : Nat) : Int) - 1 = (r.length : Int) := by omega
    rw [e, show (sep.size : Int) * (r.length : Int) = ((sep.size * r.length : Nat) : Int) by simp, hM]
    unfold wrap64
    omega
  have hM0 : sep.size = 0 → M = 0 := fun h => by rw [← hM, h, Nat.zero_mul]
  obtain ⟨n, hn⟩ : ∃ n, r.length + 1 = n := ⟨_, rfl⟩
  rw [hn] at hdv hprod hc ⊢
  have hne0 : ((n : Int) == 0) = false := beq_eq_false_iff_ne.2 (by omega)
  have hne1 : ((n : Int) == 1) = false := beq_eq_false_iff_ne.2 (by omega)
  have hn2 : 2 ≤ n := by omega
  have hn3 : n ≤ 1048577 := by omega
  obtain ⟨xs, hxs⟩ : ∃ xs, t0 :: r = xs := ⟨_, rfl⟩
  have hxl : xs.length = n := by rw [← hxs]; simpa using hn
  obtain ⟨S, hS⟩ : ∃ S, sizesT xs = S := ⟨_, rfl⟩
  rw [hxs, hS] at hs0
  have HC := hide hcells
  have HX := hide hxs
  have HS := hide hS
  have HR := hide hn
  have HL := hide hlen
  have hMS : M + S ≤ 100000000 := by omega
  have HMS := hide (show (joinT sep t0 r).size = M + S by omega)
  clear hcells hsz hlen hM hn hs0 hxs hS
  have hbd : ∀ (k : Nat) (h : k < xs.length), sizesT (xs.take (k + 1)) = sizesT (xs.take k) + xs[k].size ∧ sizesT (xs.take (k + 1)) ≤ S := fun k h => ⟨sizesT_take xs k h, by rw [← HS.out]; exact sizesT_le xs _⟩
  have HB := hide hbd
  clear hbd
  have CG := fun m z h1 h2 h3 h4 => hide (growNew_any w.heap.size w.heap.size m z h1 h2 h3 h4)
  go_enter Tryd.func18, Tryd.ntmps18
  go_wp2_with fail
  all_goals (
    go_loop [5, 41] (fun m i => ∃ k : Nat, k ≤ xs.length ∧ i = .int .i64 k ∧ m = .int .i64 ((M + sizesT (xs.take k) : Nat) : Int)) (fun _ i => xs.length - (intOf i).toNat)
    case atStart => exact ⟨0, Nat.zero_le _, rfl, by first | (simp [sizesT]; done) | (have := hM0 (by omega); simp [sizesT, this])⟩
    case round =>
      obtain ⟨k, hk, rfl, rfl⟩ := hrel
      by_cases hkn : k < xs.length
      · have hc1 : w.cell? ⟨ao, k, none⟩ = some (.string xs[k]) := by
          refine HC.out k _ ?_
          rw [HX.out, List.getElem?_eq_getElem hkn]
        obtain ⟨h1, h2⟩ := HB.out k hkn
        obtain ⟨A1, hA1⟩ : ∃ A1, sizesT (xs.take (k + 1)) = A1 := ⟨_, rfl⟩
        obtain ⟨A0, hA0⟩ : ∃ A0, sizesT (xs.take k) = A0 := ⟨_, rfl⟩
        obtain ⟨x, hx⟩ : ∃ x, xs[k] = x := ⟨_, rfl⟩
        rw [hx] at hc1 h1
        rw [hA1] at h1 h2
        rw [hA0] at h1 ⊢
        have HA1 := hide hA1
        clear hA1 hA0 hx
        go_wp2
        exact ⟨⟨k + 1, by omega, by go_num, by rw [HA1.out]; refine congrArg _ ?_; omega⟩, by simp [intOf]; omega⟩
      · have hke : k = xs.length := by omega
        subst hke
        rw [List.take_of_length_le (Nat.le_refl _), HS.out]
        go_wp2_with fail
        rw [show ((M : Int) + (S : Int)) = ((M + S : Nat) : Int) by omega]
        refine (growNew_any w.heap.size w.heap.size (M + S) _ (Nat.le_refl _) (heap_alloc_new w _) (by simp) (by omega)).mono ?_
        rintro e z1 ⟨rfl, hi1, hb1⟩
        have hj : JoB w ByteArray.empty z1 := ⟨hi1, ((Below.refl w.heap.size w).alloc (Nat.le_refl _) _).trans hb1⟩
        have J1 := hide hj
        have hc0 : z1.cell? ⟨ao, 0, none⟩ = some (.string t0) := by
          rw [hj.2.cell (p := ⟨ao, 0, none⟩) hao]
          exact HC.out 0 _ rfl
        have HJ : ∀ t y z, JoB w t z → t.size + y.size ≤ 100000000 → Hid (Calls Tryd.prog 34 #[.pointer (some ⟨w.heap.size, 0, none⟩), .string y] z fun e w' => e = .returned (.tuple #[.int .i64 y.size, .nilIface]) ∧ JoB w (t ++ y) w') := by
          intro t y z hz hl
          refine hide ((writeString_any w.heap.size w.heap.size (Lib.strCells t) y z hz.1 (by rw [Lib.strCells_length]; omega) hz.2.size).mono ?_)
          rintro e z' ⟨rfl, h1, h2, _⟩
          exact ⟨rfl, Or.inr (by rw [cellsT_app]; exact h1), hz.2.trans h2⟩
        have hx0 : t0.size ≤ 100000000 := by
          have := joinT_le sep t0 r 0
          have := HL.out
          simp [joinT] at *
          omega
        have HX0 := hide (HJ ByteArray.empty t0 z1 hj (by simpa using hx0))
        clear hi1 hb1 hj hx0
        go_wp2_with fail
        refine (unhide HX0.out).mono ?_
        rintro e z2 ⟨rfl, hj2⟩
        have J2 : Hid (JoB w (joinT sep t0 (r.take 0)) z2) := hide (by simpa [joinT] using hj2)
        have hrl : r.length = n - 1 := by have := HR.out; omega
        clear hj2 HX0
        go_wp2_with fail
        go_loopw [65] (fun i wr => ∃ k : Nat, k ≤ r.length ∧ i = .int .i64 k ∧ Hid (JoB w (joinT sep t0 (r.take k)) wr)) (fun i _ => r.length - (intOf i).toNat)
        case atStart => exact ⟨0, Nat.zero_le _, rfl, J2⟩
        case round =>
          obtain ⟨k, hk', rfl, HK⟩ := hrel
          by_cases hkr : k < r.length
          · have hcy : wr.cell? ⟨ao, 1 + k, none⟩ = some (.string r[k]) := by
              rw [HK.out.2.cell (p := ⟨ao, 1 + k, none⟩) hao]
              refine HC.out (1 + k) _ ?_
              rw [Nat.add_comm, List.getElem?_cons_succ, List.getElem?_eq_getElem hkr]
            have ht := joinT_take sep t0 r k hkr
            have hl1 := joinT_le sep t0 r (k + 1)
            have hl2 := HL.out
            obtain ⟨tk, etk⟩ : ∃ tk, joinT sep t0 (r.take k) = tk := ⟨_, rfl⟩
            obtain ⟨y, ey⟩ : ∃ y, r[k] = y := ⟨_, rfl⟩
            rw [etk, ey] at ht
            rw [etk] at HK
            rw [ey] at hcy
            rw [ht, ByteArray.size_append, ByteArray.size_append] at hl1
            have HT := hide ht
            have C1 := HJ tk sep wr HK.out (by omega)
            have C2 := fun z h => HJ (tk ++ sep) y z h (by rw [ByteArray.size_append]; omega)
            clear ht etk ey hl1 hl2
            go_wp2_with fail
            refine (unhide C1).mono ?_
            rintro e z3 ⟨rfl, hj3⟩
            have C3 := C2 z3 hj3
            clear hj3 C2 C1
            go_wp2_with fail
            refine (unhide C3).mono ?_
            rintro e z4 ⟨rfl, hj4⟩
            have J4 : Hid (JoB w (joinT sep t0 (r.take (k + 1))) z4) := hide (by rw [HT.out]; exact hj4)
            clear hj4 C3
            go_wp2
            exact ⟨⟨k + 1, by omega, by go_num, J4⟩, by simp [intOf]; omega⟩
          · have hke : k = r.length := by omega
            subst hke
            have hjf := HK.out
            rw [List.take_of_length_le (Nat.le_refl _)] at hjf
            have CS := hide (Tryd.Builder_String_any_k w.heap.size w.heap.size (joinT sep t0 r).data.toList wr (by have := hjf.1; rwa [Lib.strCells_eq] at this) hjf.2.size)
            have HF := hide hjf.2
            clear hjf
            go_wp2_with fail
            refine (unhide CS).mono ?_
            rintro e z5 ⟨rfl, _, hb5, _⟩
            have HF5 := hide (HF.out.trans hb5)
            clear hb5
            go_wp2
            go_ret
            exact ⟨by simp, HF5.out⟩)
end Go.Proofs.YtpamglakdnegcaaDoor

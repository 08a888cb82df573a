/-
  Walks: the text of signs, by the specification and by the program.
-/
import Derived.Test.YtfnmpohcoabenaaSgE
import Derived.Test.YtfnmpohcoabenaaBuildW
namespace Go.Proofs.Ytfnmpohcoabenaa
open Go.RowKit

/-- The text of the first k signs. -/
def joinB (xs : List Sg) : Nat → ByteArray
  | 0 => ⟨#[]⟩
  | k + 1 => (if k = 0 then ⟨#[]⟩ else joinB xs k ++ ⟨#[32]⟩) ++ (xs.getD k zeroSg).text

theorem empty_cat (t : ByteArray) : (⟨#[]⟩ : ByteArray) ++ t = t := by
  apply ByteArray.ext; simp
theorem joinB_one (xs : List Sg) : joinB xs 1 = (xs.getD 0 zeroSg).text := by
  simp [joinB]
  apply ByteArray.ext; simp
theorem joinB_more (xs : List Sg) (k : Nat) (h : k ≠ 0) : joinB xs (k + 1) = joinB xs k ++ ⟨#[32]⟩ ++ (xs.getD k zeroSg).text := by
  rw [joinB, if_neg h]

theorem joinB_size (xs : List Sg) : ∀ k, k ≤ xs.length → (joinB xs k).size ≤ k + sgSz (xs.take k)
  | 0, _ => by simp [joinB, ByteArray.size]
  | k + 1, h => by
    have ih := joinB_size xs k (by omega)
    have e : (xs.getD k zeroSg) = xs[k] := by rw [List.getD_eq_getElem?_getD, List.getElem?_eq_getElem (by omega)]; rfl
    rw [sgSz_take xs k (by omega), ← e]
    by_cases h0 : k = 0
    · subst h0; rw [joinB_one]; omega
    · rw [joinB_more xs k h0, ByteArray.size_append, ByteArray.size_append]
      have : (⟨#[32]⟩ : ByteArray).size = 1 := rfl
      omega
theorem joinB_size_all (xs : List Sg) (k : Nat) (hk : k ≤ xs.length) (h : xs.length + sgSz xs ≤ 1048576) : (joinB xs k).size ≤ 1048576 := by
  have h1 := joinB_size xs k hk
  have h2 := sgSz_take_le xs k
  omega

/-- What the specification's loop keeps. -/
def JoinRel (xs : List Sg) (sv iv : Value) : Prop := ∃ k : Nat, k ≤ xs.length ∧ iv = .int .i64 k ∧ sv = .string (joinB xs k)

set_option maxHeartbeats 1000000 in
theorem specSignText_any (v : Value) (xs : List Sg) (w : World) (h : SgAt w v xs) (hz : xs.length + sgSz xs ≤ 1048576) :
    Calls Try.prog 11 #[v] w fun e w' => e = .returned (.string (joinB xs xs.length)) ∧ w' = w := by
  obtain ⟨ao, c, rfl, HC⟩ := h
  have HC := hide HC
  go_enter Try.func11, Try.ntmps11
  go_wp2
  go_loop [3, 4] (fun sv iv => JoinRel xs sv iv) (fun _ iv => xs.length - (intOf iv).toNat)
  case atStart => exact ⟨0, Nat.zero_le _, rfl, rfl⟩
  case round =>
    obtain ⟨k, hk, rfl, rfl⟩ := hrel
    have hs1 := joinB_size_all xs k hk hz
    by_cases hlt : k < xs.length
    · obtain ⟨a, rfl, ha, hcell⟩ := HC.out k hlt
      have hs2 := joinB_size_all xs (k + 1) hlt hz
      have e : (xs.getD k zeroSg) = xs[k] := by rw [List.getD_eq_getElem?_getD, List.getElem?_eq_getElem hlt]; rfl
      obtain ⟨x, ex⟩ : ∃ x, x = xs[k] := ⟨_, rfl⟩
      rw [← ex] at hcell e
      obtain ⟨p, hp⟩ : ∃ p, a.add (k * 4) = p := ⟨_, rfl⟩
      rw [hp] at hcell
      obtain ⟨c0, c1, c2, c3⟩ := hcell.facts
      have hi0 : (0 : Int) ≤ (k : Int) := by omega
      have hi1 : (k : Int) < (xs.length : Int) := by omega
      by_cases h0 : k = 0
      · subst h0
        have e1 := joinB_one xs
        rw [e] at e1
        rw [e1] at hs2
        have E1 := hide e1
        clear e1 e ex hcell
        have z0 : joinB xs 0 = ⟨#[]⟩ := rfl
        rw [z0]
        go_wp2
        go_round
        case rel => exact ⟨1, by omega, by go_num, by rw [E1.out, empty_cat]⟩
        case measure => simp [intOf]; omega
      · have e1 := joinB_more xs k h0
        rw [e] at e1
        rw [e1] at hs2
        have E1 := hide e1
        clear e1 e ex hcell
        obtain ⟨t, ht⟩ : ∃ t, t = joinB xs k := ⟨_, rfl⟩
        rw [← ht] at E1 hs1 hs2 ⊢
        have HT := hide ht
        clear ht
        have hk0 : (0 : Int) < (k : Int) := by omega
        rw [ByteArray.size_append, ByteArray.size_append] at hs2
        go_wp2
        go_round
        case rel => exact ⟨k + 1, by omega, by go_num, by rw [E1.out]⟩
        case measure => simp [intOf]; omega
    · have HE : Hid (k = xs.length) := by have : k = xs.length := by omega
                                          exact this
      go_wp2
      go_ret
      exact ⟨by rw [← HE.out]; rfl, rfl⟩

/-- What the program's loop keeps: the builder holds the text so far. -/
def PutRel (w : World) (xs : List Sg) (iv : Value) (wr : World) : Prop :=
  ∃ k : Nat, k ≤ xs.length ∧ iv = .int .i64 k ∧ Lib.IsBuilderF 47 5 w.heap.size w.heap.size (Lib.byteCells (joinB xs k).data.toList) wr ∧ Below w.heap.size w wr ∧ w.heap.size < wr.heap.size

theorem cat_list (a b : ByteArray) : (a ++ b).data.toList = a.data.toList ++ b.data.toList := by
  rw [ByteArray.data_append, Array.toList_append]
theorem bytes_len (a : ByteArray) : (Lib.byteCells a.data.toList).length = a.size := by
  rw [Lib.byteCells_length, Array.length_toList]; rfl

set_option maxRecDepth 100000 in
set_option maxHeartbeats 2000000 in
theorem implSignText_any (v : Value) (xs : List Sg) (w : World) (h : SgAt w v xs) (hz : xs.length + sgSz xs ≤ 1048576) :
    Calls Try.prog 13 #[v] w fun e w' => e = .returned (.string (joinB xs xs.length)) ∧ Below w.heap.size w w' := by
  obtain ⟨ao, c, rfl, HC⟩ := h
  have HC := hide HC
  go_enter Try.func13, Try.ntmps13
  go_wp2
  go_loopw [8] (fun iv wr => PutRel w xs iv wr) (fun iv _ => xs.length - (intOf iv).toNat)
  case atStart =>
    refine ⟨0, Nat.zero_le _, rfl, .inl ⟨Nat.le_refl _, .slice none 0 0, ?_, World.ownsRowF_nil _ _ _ _, by simp [Value.ownBlock]⟩, (Below.refl _ _).alloc (Nat.le_refl _) _, by simp⟩
    exact heap_alloc_new w _
  case round =>
    obtain ⟨k, hk, rfl, hB, hb, hsz⟩ := hrel
    by_cases hlt : k < xs.length
    · obtain ⟨a, rfl, ha, hcell⟩ := HC.out k hlt
      have hcell2 := hcell.stays hb (by rw [add_block]; exact ha)
      have hs1 := joinB_size_all xs k hk hz
      have hs2 := joinB_size_all xs (k + 1) hlt hz
      have e : (xs.getD k zeroSg) = xs[k] := by rw [List.getD_eq_getElem?_getD, List.getElem?_eq_getElem hlt]; rfl
      obtain ⟨x, ex⟩ : ∃ x, x = xs[k] := ⟨_, rfl⟩
      rw [← ex] at hcell2 e
      obtain ⟨p, hp⟩ : ∃ p, a.add (k * 4) = p := ⟨_, rfl⟩
      rw [hp] at hcell2
      obtain ⟨c0, c1, c2, c3⟩ := hcell2.facts
      have hi0 : (0 : Int) ≤ (k : Int) := by omega
      have hi1 : (k : Int) < (xs.length : Int) := by omega
      have HP := hide hB
      have HB := hide hb
      clear hcell hcell2 ex hB hb
      by_cases h0 : k = 0
      · subst h0
        have e1 := joinB_one xs
        rw [e] at e1
        rw [e1] at hs2
        have E1 := hide e1
        clear e1 e
        go_wp2_with fail
        have hP2 := HP.out.alloc (.cells #[.int .i64 x.kind, .string x.text, .int .i64 x.num, .int .i64 x.place] 42)
        refine (writeString_any _ _ _ x.text _ hP2 (by rw [bytes_len]; omega) (by simp; omega)).mono ?_
        rintro e w1 ⟨rfl, h1, hb1, _⟩
        have HR : Hid (Lib.IsBuilderF 47 5 w.heap.size w.heap.size (Lib.byteCells (joinB xs 1).data.toList) w1) := by
          have h2 : Lib.IsBuilderF 47 5 w.heap.size w.heap.size _ w1 := .inr h1
          rw [E1.out]
          exact h2
        have HB2 : Hid (Below w.heap.size w w1) := (HB.out.alloc (by omega) _).trans hb1
        have hsz2 : w.heap.size < w1.heap.size := by have := hb1.size; simp at this; omega
        clear h1 hb1
        go_wp2
        go_roundw
        case rel => exact ⟨1, by omega, by go_num, HR.out, HB2.out, hsz2⟩
        case measure => simp [intOf]; omega
      · have e1 := joinB_more xs k h0
        rw [e] at e1
        rw [e1, ByteArray.size_append, ByteArray.size_append] at hs2
        have E1 := hide e1
        clear e1 e
        have hk0 : (0 : Int) < (k : Int) := by omega
        have e32 : (⟨#[32]⟩ : ByteArray).size = 1 := rfl
        go_wp2_with fail
        have hP2 := HP.out.alloc (.cells #[.int .i64 x.kind, .string x.text, .int .i64 x.num, .int .i64 x.place] 42)
        refine (writeByte_any _ _ _ 32 _ hP2 (by rw [bytes_len]; omega) (by simp; omega)).mono ?_
        rintro e w1 ⟨rfl, h1, hb1, hk1⟩
        have hnb : w1.heap[wr.heap.size]? = some (.cells #[.int .i64 x.kind, .string x.text, .int .i64 x.num, .int .i64 x.place] 42 (0, 0)) :=
          hk1 wr.heap.size _ (heap_alloc_new wr _) (fun h => by have := Option.some.inj h; omega) (by intro c fz h; cases h)
        have d1 : w1.cell? { block := wr.heap.size, off := 1 } = some (.string x.text) := by rw [Lib.cell_of_heap hnb]; rfl
        have hsz1 : w.heap.size ≤ w1.heap.size := by have := hb1.size; simp at this; omega
        have HN := hide hnb
        have HK := hide hk1
        clear hnb hk1
        go_wp2_with fail
        refine (writeString_any _ _ _ x.text _ (.inr h1) (by rw [List.length_append, bytes_len]; simp; omega) hsz1).mono ?_
        rintro e w2 ⟨rfl, h2, hb2, _⟩
        have HR : Hid (Lib.IsBuilderF 47 5 w.heap.size w.heap.size (Lib.byteCells (joinB xs (k + 1)).data.toList) w2) := by
          have h3 : Lib.IsBuilderF 47 5 w.heap.size w.heap.size _ w2 := .inr h2
          rw [E1.out, cat_list, cat_list, Lib.byteCells_append, Lib.byteCells_append]
          exact h3
        have HB2 : Hid (Below w.heap.size w w2) := ((HB.out.alloc (by omega) _).trans hb1).trans hb2
        have hsz2 : w.heap.size < w2.heap.size := by have := hb1.size; have := hb2.size; simp at *; omega
        clear h1 hb1 h2 hb2
        go_wp2
        go_roundw
        case rel => exact ⟨k + 1, by omega, by go_num, HR.out, HB2.out, hsz2⟩
        case measure => simp [intOf]; omega
    · have HE : Hid (k = xs.length) := by have : k = xs.length := by omega
                                          exact this
      have hbs := hb.size
      go_wp2_with fail
      refine (Try.Builder_String_any_k _ _ _ _ hB hbs).mono ?_
      rintro e w1 ⟨rfl, _, hb1, _⟩
      go_wp2
      go_ret
      exact ⟨by rw [← HE.out]; rfl, hb.trans hb1⟩
end Go.Proofs.Ytfnmpohcoabenaa

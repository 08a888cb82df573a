/-
  Walks: what a text begins with, by the program.
-/
import Derived.Test.YtfnmpohcoabenaaDoorIdxW
import Derived.Lib.QuoteLoop
namespace Go.Proofs.YtfnmpohcoabenaaDoor
open Go.RowKit

/-- What is told of a text's beginning. -/
def BegEnd (t : ByteArray) (w : World) (e : Ending) (w' : World) : Prop :=
  ∃ n : Nat, e = .returned (.tuple #[.int .i64 (kindB t.data.toList), .int .i64 (n : Int)]) ∧ 1 ≤ n ∧ n ≤ t.size ∧ (kindB t.data.toList ≠ -1 → n = sizeOfB t.data.toList) ∧ Below w.heap.size w w'

theorem list_cons (t : ByteArray) (h : 0 < t.size) : t.data.toList = t[0] :: t.data.toList.drop 1 := by
  have hl : t.data.toList.length = t.size := by rw [Array.length_toList]; rfl
  have := List.drop_eq_getElem_cons (l := t.data.toList) (i := 0) (by omega)
  rw [List.drop_zero] at this
  exact this

theorem hasSet (b : UInt8) (r : List UInt8) : Lib.hasPrefix (b :: r) [58, 61] = decide (b.toNat = 58 ∧ r.head?.map UInt8.toNat = some 61) := by
  have e : ∀ (x : UInt8) (n : Nat) (hn : n < 256), (x = n.toUInt8) ↔ x.toNat = n := fun x n hn => by
    constructor
    · rintro rfl; simp; omega
    · intro h; apply UInt8.toNat.inj; rw [h]; simp; omega
  cases r with
  | nil => simp [Lib.hasPrefix, List.isPrefixOf]
  | cons c r =>
    have h1 := e b 58 (by omega)
    have h2 := e c 61 (by omega)
    simp only [Lib.hasPrefix, List.isPrefixOf, List.head?_cons, Option.map_some, Option.some.injEq]
    rw [Bool.eq_iff_iff]
    simp
    rw [eq_comm, eq_comm (a := (61 : UInt8))]
    exact and_congr h1 h2

theorem markHas (c : Nat) (h : c < 128) : decide (0 ≤ Lib.indexByte marksB.data.toList ((c : Int).toNat.toUInt8)) = markQ c := by
  have : ∀ c : Fin 128, decide (0 ≤ Lib.indexByte marksB.data.toList (((c.val : Nat) : Int).toNat.toUInt8)) = markQ c.val := by decide +kernel
  exact this ⟨c, h⟩

theorem beg_none {t : ByteArray} {w w' : World} {n : Nat} (k : kindB t.data.toList = -1) (h1 : 1 ≤ n) (h2 : n ≤ t.size) (hb : Below w.heap.size w w') : BegEnd t w (.returned (.tuple #[.int .i64 (-1), .int .i64 (n : Int)])) w' :=
  ⟨n, by rw [k], h1, h2, fun h => absurd k h, hb⟩
theorem beg_some {t : ByteArray} {w w' : World} {n : Nat} {k : Int} (hk : kindB t.data.toList = k) (hn : sizeOfB t.data.toList = n) (h0 : 0 < t.size) (hb : Below w.heap.size w w') : BegEnd t w (.returned (.tuple #[.int .i64 k, .int .i64 (n : Int)])) w' := by
  refine ⟨n, by rw [hk], ?_, ?_, fun _ => hn.symm, hb⟩
  · rw [← hn]; exact sizeOfB_pos _
  · rw [← hn]
    have := sizeOfB_le t.data.toList (by rw [list_cons t h0]; simp)
    rwa [show t.data.toList.length = t.size from by rw [Array.length_toList]; rfl] at this

def kindC (c : Nat) (pr : Bool) : Int := if blankQ c then 0 else if c = 35 then 0 else if letterQ c then 1 else if figureQ c then 2 else if pr then 3 else if markQ c then 3 else -1
def sizeC (c : Nat) (pr : Bool) (l : List UInt8) : Nat := if blankQ c then headN blankQ l else if c = 35 then headN lineQ l else if letterQ c then headN letterQ l else if figureQ c then headN figureQ l else if pr then 2 else 1
def setQ (t : ByteArray) (c : Nat) : Bool := decide (c = 58 ∧ ((t.data.toList.drop 1).head?.map UInt8.toNat) = some 61)
theorem kindB_C (t : ByteArray) (h0 : 0 < t.size) : kindB t.data.toList = kindC t[0].toNat (setQ t t[0].toNat) := by
  conv => lhs; rw [list_cons t h0, kindB]
  simp only [kindC, setQ, decide_eq_true_eq]
theorem sizeB_C (t : ByteArray) (h0 : 0 < t.size) : sizeOfB t.data.toList = sizeC t[0].toNat (setQ t t[0].toNat) t.data.toList := by
  conv => lhs; rw [list_cons t h0, sizeOfB, ← list_cons t h0]
  simp only [sizeC, setQ, decide_eq_true_eq]

set_option maxRecDepth 100000 in
set_option maxHeartbeats 2000000 in
theorem beginning_low (t : ByteArray) (w : World) (h0 : 0 < t.size) (ht : t.size ≤ 1048576) (hT : Lib.Utf8Tabs 0 1 w) (hlow : t[0].toNat < 128) :
    Calls Tryd.prog 10 #[.string t] w (BegEnd t w) := by
  have hd : Lib.decodeGo t = (t[0].toNat, 1) := by
    rw [Lib.decodeGo, if_neg (by omega), decode_ascii t 0 h0 hlow]
  have hcons := list_cons t h0
  have CD := fun w h => hide (Tryd.utf8_DecodeRuneInString t w h)
  simp only [hd] at CD
  have CP := fun w => hide (Tryd.strings_HasPrefix t ⟨#[58, 61]⟩ w)
  have hpre : Lib.hasPrefix t.data.toList (⟨#[58, 61]⟩ : ByteArray).data.toList = setQ t t[0].toNat := by
    conv => lhs; rw [hcons]
    exact hasSet _ _
  rw [hpre] at CP
  have CM := fun w => hide (Tryd.strings_ContainsRune_ascii marksB ((t[0].toNat : Nat) : Int) w (by omega) (by omega))
  simp only [markHas _ hlow] at CM
  have CSb := fun w => hide (sizeOf_blank t w ht)
  have CSo := fun w => hide (sizeOf_line t w ht)
  have CSl := fun w => hide (sizeOf_letter t w ht)
  have CSf := fun w => hide (sizeOf_figure t w ht)
  have hk := kindB_C t h0
  have hs := sizeB_C t h0
  obtain ⟨c, hc⟩ : ∃ c : Nat, c = t[0].toNat := ⟨_, rfl⟩
  rw [← hc] at hk hs hlow
  simp only [← hc] at CD CP CM
  obtain ⟨pr, hpr⟩ : ∃ pr, pr = setQ t c := ⟨_, rfl⟩
  rw [← hpr] at hk hs CP
  have CB := fun w => hide (isBlank_any c w (by omega))
  have CL := fun w => hide (isLetter_any c w (by omega))
  have CF := fun w => hide (isFigure_any c w (by omega))
  clear hcons hd hpre hpr hc
  unfold kindC at hk
  unfold sizeC at hs
  have HT := hide hT
  clear hT
  cases hb : blankQ c with
  | true =>
    rw [hb] at CB hk hs
    have HF := fun w w' => hide (beg_some (t := t) (w := w) (w' := w') hk hs h0)
    generalize headN blankQ t.data.toList = n at *
    clear hb hk hs hlow
    go_enter Tryd.func10, Tryd.ntmps10
    go_wp2_with (first | (go_at_call 18; refine (unhide (CD _ HT.out)).mono ?_; rintro e w1 ⟨rfl, hb1⟩) | (go_at_call 19; refine (unhide (CB _)).mono ?_; rintro e w2 ⟨rfl, rfl⟩) | (go_at_call 20; refine (unhide (CSb _)).mono ?_; rintro e w3 ⟨rfl, hb3⟩))
    go_ret2
    exact (HF _ _).out (hb1.trans (hb3.mono hb1.size))
  | false =>
    rw [hb] at CB hk hs
    by_cases h35 : c = 35
    · subst h35
      have HF := fun w w' => hide (beg_some (t := t) (w := w) (w' := w') hk hs h0)
      generalize headN lineQ t.data.toList = n at *
      clear hb hk hs hlow
      go_enter Tryd.func10, Tryd.ntmps10
      go_wp2_with (first | (go_at_call 18; refine (unhide (CD _ HT.out)).mono ?_; rintro e w1 ⟨rfl, hb1⟩) | (go_at_call 19; refine (unhide (CB _)).mono ?_; rintro e w2 ⟨rfl, rfl⟩) | (go_at_call 20; refine (unhide (CSo _)).mono ?_; rintro e w3 ⟨rfl, hb3⟩))
      go_ret2
      exact (HF _ _).out (hb1.trans (hb3.mono hb1.size))
    · have h35' : ((c : Int) == 35) = false := by simp; omega
      rw [if_neg (by simp), if_neg h35] at hk hs
      cases hl : letterQ c with
      | true =>
        rw [hl] at CL hk hs
        have HF := fun w w' => hide (beg_some (t := t) (w := w) (w' := w') hk hs h0)
        generalize headN letterQ t.data.toList = n at *
        clear hb hl h35 hk hs hlow
        go_enter Tryd.func10, Tryd.ntmps10
        go_wp2_with (first | (go_at_call 18; refine (unhide (CD _ HT.out)).mono ?_; rintro e w1 ⟨rfl, hb1⟩) | (go_at_call 19; refine (unhide (CB _)).mono ?_; rintro e w2 ⟨rfl, rfl⟩) | (go_at_call 22; refine (unhide (CL _)).mono ?_; rintro e w2 ⟨rfl, rfl⟩) | (go_at_call 20; refine (unhide (CSl _)).mono ?_; rintro e w3 ⟨rfl, hb3⟩))
        go_ret2
        exact (HF _ _).out (hb1.trans (hb3.mono hb1.size))
      | false =>
        rw [hl] at CL hk hs
        cases hf : figureQ c with
        | true =>
          rw [hf] at CF hk hs
          have HF := fun w w' => hide (beg_some (t := t) (w := w) (w' := w') hk hs h0)
          generalize headN figureQ t.data.toList = n at *
          clear hb hl hf h35 hk hs hlow
          go_enter Tryd.func10, Tryd.ntmps10
          go_wp2_with (first | (go_at_call 18; refine (unhide (CD _ HT.out)).mono ?_; rintro e w1 ⟨rfl, hb1⟩) | (go_at_call 19; refine (unhide (CB _)).mono ?_; rintro e w2 ⟨rfl, rfl⟩) | (go_at_call 22; refine (unhide (CL _)).mono ?_; rintro e w2 ⟨rfl, rfl⟩) | (go_at_call 23; refine (unhide (CF _)).mono ?_; rintro e w2 ⟨rfl, rfl⟩) | (go_at_call 20; refine (unhide (CSf _)).mono ?_; rintro e w3 ⟨rfl, hb3⟩))
          go_ret2
          exact (HF _ _).out (hb1.trans (hb3.mono hb1.size))
        | false =>
          rw [hf] at CF hk hs
          cases pr with
          | true =>
            have HF := fun w w' => hide (beg_some (t := t) (w := w) (w' := w') hk hs h0)
            clear hb hl hf h35 hk hs hlow
            go_enter Tryd.func10, Tryd.ntmps10
            go_wp2_with (first | (go_at_call 18; refine (unhide (CD _ HT.out)).mono ?_; rintro e w1 ⟨rfl, hb1⟩) | (go_at_call 19; refine (unhide (CB _)).mono ?_; rintro e w2 ⟨rfl, rfl⟩) | (go_at_call 22; refine (unhide (CL _)).mono ?_; rintro e w2 ⟨rfl, rfl⟩) | (go_at_call 23; refine (unhide (CF _)).mono ?_; rintro e w2 ⟨rfl, rfl⟩) | (go_at_call 24; refine (unhide (CP _)).mono ?_; rintro e w2 ⟨rfl, rfl⟩))
            go_ret2
            exact (HF _ _).out hb1
          | false =>
            cases hm : markQ c with
            | true =>
              rw [hm] at CM hk
              have HF := fun w w' => hide (beg_some (t := t) (w := w) (w' := w') hk hs h0)
              clear hb hl hf h35 hm hk hs hlow
              go_enter Tryd.func10, Tryd.ntmps10
              go_wp2_with (first | (go_at_call 18; refine (unhide (CD _ HT.out)).mono ?_; rintro e w1 ⟨rfl, hb1⟩) | (go_at_call 19; refine (unhide (CB _)).mono ?_; rintro e w2 ⟨rfl, rfl⟩) | (go_at_call 22; refine (unhide (CL _)).mono ?_; rintro e w2 ⟨rfl, rfl⟩) | (go_at_call 23; refine (unhide (CF _)).mono ?_; rintro e w2 ⟨rfl, rfl⟩) | (go_at_call 24; refine (unhide (CP _)).mono ?_; rintro e w2 ⟨rfl, rfl⟩) | (go_at_call 25; refine (unhide (CM _)).mono ?_; rintro e w2 ⟨rfl, rfl⟩))
              go_ret2
              exact (HF _ _).out hb1
            | false =>
              rw [hm] at CM hk
              have HF := fun w w' => hide (beg_none (t := t) (w := w) (w' := w') (n := 1) hk (Nat.le_refl _) h0)
              clear hb hl hf h35 hm hk hs hlow
              go_enter Tryd.func10, Tryd.ntmps10
              go_wp2_with (first | (go_at_call 18; refine (unhide (CD _ HT.out)).mono ?_; rintro e w1 ⟨rfl, hb1⟩) | (go_at_call 19; refine (unhide (CB _)).mono ?_; rintro e w2 ⟨rfl, rfl⟩) | (go_at_call 22; refine (unhide (CL _)).mono ?_; rintro e w2 ⟨rfl, rfl⟩) | (go_at_call 23; refine (unhide (CF _)).mono ?_; rintro e w2 ⟨rfl, rfl⟩) | (go_at_call 24; refine (unhide (CP _)).mono ?_; rintro e w2 ⟨rfl, rfl⟩) | (go_at_call 25; refine (unhide (CM _)).mono ?_; rintro e w2 ⟨rfl, rfl⟩))
              go_ret2
              exact (HF _ _).out hb1

set_option maxRecDepth 100000 in
set_option maxHeartbeats 2000000 in
theorem beginning_high (t : ByteArray) (w : World) (h0 : 0 < t.size) (hT : Lib.Utf8Tabs 0 1 w) (hhi : 128 ≤ t[0].toNat) :
    Calls Tryd.prog 10 #[.string t] w (BegEnd t w) := by
  obtain ⟨d1, d2⟩ := decode_high t 0 h0 hhi
  have hsp := (decode_span t 0 h0).1
  have hv := Lib.rune_valid t
  have hd : Lib.decodeGo t = Utf8.decode t 0 := by rw [Lib.decodeGo, if_neg (by omega)]
  have hcons := list_cons t h0
  have CD := fun w h => hide (Tryd.utf8_DecodeRuneInString t w h)
  simp only [hd] at CD
  have hpre : Lib.hasPrefix t.data.toList (⟨#[58, 61]⟩ : ByteArray).data.toList = false := by
    rw [hcons]
    refine (hasSet _ _).trans ?_
    simp; omega
  have CP := fun w => hide (Tryd.strings_HasPrefix t ⟨#[58, 61]⟩ w)
  rw [hpre] at CP
  have h11 : (Utf8.decode t 0).1 ≤ 1114111 := by
    have := hv
    simp only [Lib.validRune, decide_eq_true_eq] at this
    omega
  obtain ⟨c, hc⟩ : ∃ c : Nat, c = (Utf8.decode t 0).1 := ⟨_, rfl⟩
  obtain ⟨n, hn⟩ : ∃ n : Nat, n = (Utf8.decode t 0).2 := ⟨_, rfl⟩
  simp only [← hc, ← hn] at CD
  rw [← hc] at d1 hv h11
  rw [← hn] at d2 hsp
  have hk : kindB t.data.toList = -1 := by
    have hb0 := t[0].toNat_lt
    have hm : markQ t[0].toNat = false := by simp [markQ]; omega
    rw [kindB_C t h0, kindC, hm]
    simp [blankQ, letterQ, figureQ, setQ]
    omega
  have HF := fun w w' => hide (beg_none (t := t) (w := w) (w' := w') (n := n) hk d2 (by omega))
  have CB := fun w => hide (isBlank_any c w (by omega))
  have CL := fun w => hide (isLetter_any c w (by omega))
  have CF := fun w => hide (isFigure_any c w (by omega))
  have CM := fun w => hide (containsRune_high c w d1 h11 hv)
  rw [show blankQ c = false from by simp [blankQ]; omega] at CB
  rw [show letterQ c = false from by simp [letterQ]; omega] at CL
  rw [show figureQ c = false from by simp [figureQ]; omega] at CF
  have h35' : ((c : Int) == 35) = false := by simp; omega
  have HT := hide hT
  clear hcons hd hpre hc hn hv h11 d1 d2 hsp hT hhi hk
  go_enter Tryd.func10, Tryd.ntmps10
  go_wp2_with (first | (go_at_call 18; refine (unhide (CD _ HT.out)).mono ?_; rintro e w1 ⟨rfl, hb1⟩) | (go_at_call 19; refine (unhide (CB _)).mono ?_; rintro e w2 ⟨rfl, rfl⟩) | (go_at_call 22; refine (unhide (CL _)).mono ?_; rintro e w2 ⟨rfl, rfl⟩) | (go_at_call 23; refine (unhide (CF _)).mono ?_; rintro e w2 ⟨rfl, rfl⟩) | (go_at_call 24; refine (unhide (CP _)).mono ?_; rintro e w2 ⟨rfl, rfl⟩) | (go_at_call 25; refine (unhide (CM _)).mono ?_; rintro e w2 ⟨rfl, hb2⟩))
  go_ret2
  exact (HF _ _).out (hb1.trans (hb2.mono hb1.size))

theorem beginning_any (t : ByteArray) (w : World) (h0 : 0 < t.size) (ht : t.size ≤ 1048576) (hT : Lib.Utf8Tabs 0 1 w) :
    Calls Tryd.prog 10 #[.string t] w (BegEnd t w) := by
  by_cases h : t[0].toNat < 128
  · exact beginning_low t w h0 ht hT h
  · exact beginning_high t w h0 hT (by omega)
end Go.Proofs.YtfnmpohcoabenaaDoor

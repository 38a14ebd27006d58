/- THE WALKS of package ring: the document's Words; lives. -/
import Derived.Test.YtjehcgeodcpcaaaKl
namespace Go.Proofs.Ytjehcgeodcpcaaa
open Go Go.RowKit

/-- from the head of block g on lie the numbers xs -/
def Lies (w : World) (g : Nat) (xs : List Int) : Prop := ∀ j x, xs[j]? = some x → w.cell? ⟨g, j, none⟩ = some (.int .u64 x)
theorem Row.lies {w : World} {g : Nat} {t : TypeId} {xs : List Int} (h : Row w g t (u64s xs)) : Lies w g xs := fun j x hx => by rw [h.cell, u64s_get, hx]; rfl
theorem own_lies {w : World} {base g n c : Nat} {e : TypeId} {xs : List Int} (h : w.ownsRow base e 1 (.slice (some ⟨g, 0, none⟩) n c) n (u64s xs)) : Lies w g xs := fun j x hx => by
  have := h.cells (g := g) rfl j (.int .u64 x) (by rw [u64s_get, hx]; rfl)
  rwa [add_zero_] at this
set_option maxRecDepth 100000
theorem words_yes {w : World} {g g' c c' m m' : Nat} {xs : List Int} (h : Lies w g xs) (h' : Lies w g' xs) (hl : xs.length ≤ 1000000) (hm : xs.length = m) (hm' : xs.length = m') :
    Calls Try.prog 22 #[.slice (some ⟨g, 0, none⟩) m c, .slice (some ⟨g', 0, none⟩) m' c'] w fun e w' => e = .returned (.bool true) ∧ Below w.heap.size w w' := by
  subst hm
  subst hm'
  have H := Lib.hid h
  have H' := Lib.hid h'
  clear h h'
  go_enter Try.func22, Try.ntmps22
  go_wp2
  go_loopw [13] (fun i wr => ∃ k : Nat, k ≤ xs.length ∧ i = .int .i64 k ∧ Below w.heap.size w wr ∧ Lies wr g xs ∧ Lies wr g' xs) (fun i _ => xs.length - (intOf i).toNat)
  case atStart => exact ⟨0, Nat.zero_le _, rfl, Below.refl _ _, H.out, H'.out⟩
  case round =>
    obtain ⟨k, hk, rfl, hb, h1, h2⟩ := hrel
    by_cases hlt : k < xs.length
    · obtain ⟨x, hx⟩ : ∃ x, xs[k]? = some x := ⟨xs[k], List.getElem?_eq_getElem hlt⟩
      have hc := h1 k x hx
      have hc' := h2 k x hx
      have hlt' : (k : Int) < (xs.length : Int) := by omega
      have hxx : ((x : Int) != x) = false := by simp
      have HB := Lib.hid hb
      have H1 := Lib.hid h1
      have H2 := Lib.hid h2
      clear hx hb h1 h2
      go_wp2
      go_quiet (fail)
      go_wp2
      go_roundw
      case rel => exact ⟨k + 1, by omega, by go_num, ⟨HB.out.os, HB.out.tape, HB.out.output, HB.out.size, HB.out.block⟩, H1.out, H2.out⟩
      case measure => simp [intOf]; omega
    · obtain rfl : k = xs.length := by omega
      have HB := Lib.hid hb
      clear hb h1 h2
      go_wp2
      go_ret
      exact ⟨rfl, HB.out⟩
theorem words_none (w : World) : Calls Try.prog 22 #[.slice none 0 0, .slice none 0 0] w fun e w' => e = .returned (.bool true) ∧ Below w.heap.size w w' := by
  go_enter Try.func22, Try.ntmps22
  go_wp2
  refine wp_loop_rounds 1 ?_
  rw [rounds_succ]
  go_wp2
  go_ret
  exact ⟨rfl, Below.refl _ _⟩
theorem lives_any (w : World) :
    Calls Try.prog 7 #[] w fun e w' => e = .returned (.bool true) ∧ Below w.heap.size w w' := by
  have F1 : Hid (FineN 10 1 0 5 0) := Lib.hid ⟨.inl rfl, by decide, by decide, by decide, by decide⟩
  have D1 : Hid ((doN (List.replicate 3 0) 1 0 5).1 = [5, 0, 0]) := Lib.hid (by decide)
  have E1 : Hid ((doN (List.replicate 3 0) 1 0 5).2.why = 0) := Lib.hid (by decide)
  have F2 : Hid (FineN 10 1 12 1 1) := Lib.hid ⟨.inl rfl, by decide, by decide, by decide, by decide⟩
  have D2 : Hid ((doN ([5, 0, 0]) 1 1 1).1 = [5, 4294967297, 0]) := Lib.hid (by decide)
  have E2 : Hid ((doN ([5, 0, 0]) 1 1 1).2.why = 0) := Lib.hid (by decide)
  have F3 : Hid (FineN 10 1 29 2 2) := Lib.hid ⟨.inl rfl, by decide, by decide, by decide, by decide⟩
  have D3 : Hid ((doN ([5, 4294967297, 0]) 1 2 2).1 = [5, 4294967297, 8589934594]) := Lib.hid (by decide)
  have E3 : Hid ((doN ([5, 4294967297, 0]) 1 2 2).2.why = 0) := Lib.hid (by decide)
  have F4 : Hid (FineN 10 2 29 0 2) := Lib.hid ⟨.inr ⟨rfl, rfl⟩, by decide, by decide, by decide, by decide⟩
  have D4 : Hid ((doN ([5, 4294967297, 8589934594]) 2 2 0).1 = [5, 4294967297, 8589934594]) := Lib.hid (by decide)
  have A4 : Hid ((doN ([5, 4294967297, 8589934594]) 2 2 0).2.ans = 8) := Lib.hid (by decide)
  have E4 : Hid ((doN ([5, 4294967297, 8589934594]) 2 2 0).2.why = 0) := Lib.hid (by decide)
  have F5 : Hid (FineN 10 2 30 0 3) := Lib.hid ⟨.inr ⟨rfl, rfl⟩, by decide, by decide, by decide, by decide⟩
  have D5 : Hid ((doN ([5, 4294967297, 8589934594]) 2 3 0).1 = [5, 4294967297, 8589934594]) := Lib.hid (by decide)
  have A5 : Hid ((doN ([5, 4294967297, 8589934594]) 2 3 0).2.ans = 3) := Lib.hid (by decide)
  have E5 : Hid ((doN ([5, 4294967297, 8589934594]) 2 3 0).2.why = 0) := Lib.hid (by decide)
  have F7 : Hid (FineN 10 1 30 4 3) := Lib.hid ⟨.inl rfl, by decide, by decide, by decide, by decide⟩
  have D7 : Hid ((doN ([5, 4294967297, 8589934594]) 1 3 4).1 = [12884901892, 4294967297, 8589934594]) := Lib.hid (by decide)
  have E7 : Hid ((doN ([5, 4294967297, 8589934594]) 1 3 4).2.why = 0) := Lib.hid (by decide)
  have F8 : Hid (FineN 10 1 5 1 0) := Lib.hid ⟨.inl rfl, by decide, by decide, by decide, by decide⟩
  have D8 : Hid ((doN ([12884901892, 4294967297, 8589934594]) 1 0 1).1 = [12884901892, 4294967297, 8589934594]) := Lib.hid (by decide)
  have E8 : Hid ((doN ([12884901892, 4294967297, 8589934594]) 1 0 1).2.why = 50) := Lib.hid (by decide)
  have F6 : Hid (FineN 10 2 29 0 2) := Lib.hid ⟨.inr ⟨rfl, rfl⟩, by decide, by decide, by decide, by decide⟩
  have L6 : Hid (eachN [5, 4294967297, 8589934594] 0 3 = [5, 1, 2]) := Lib.hid (by decide)
  go_enter Try.func7, Try.ntmps7
  go_wp2_with (first
    | (go_at_call 8; refine (rnew_yes w (k := 3) (wd := 10) (by omega) (by omega) (by omega) (by omega)).mono ?_; rintro e w1 ⟨br, bk, bw, rfl, hg, hk, hw, hS, hb⟩; have S1 := Lib.hid hS; have P1 := Lib.hid (Part.of_below hb (Nat.le_refl _) [bw]); have HBW := Lib.hid hw; clear hg hk hw hS hb)
    | (go_at_call 18; (with_reducible refine (nadd_is (q := 0) (n := 5) (t := 0) S1.out (by omega) F1.out D1.out E1.out).mono ?_); rintro e w2 ⟨rfl, hR, hP⟩; have S2 := Lib.hid hR; have P2 := Lib.hid (Part.trans (S' := [bw]) P1.out hP (fun _ _ hm => hm)); clear hR hP)
    | (go_at_call 18; (with_reducible refine (nadd_is (q := 1) (n := 1) (t := 12) S2.out (by omega) F2.out D2.out E2.out).mono ?_); rintro e w3 ⟨rfl, hR, hP⟩; have S3 := Lib.hid hR; have P3 := Lib.hid (Part.trans (S' := [bw]) P2.out hP (fun _ _ hm => hm)); clear hR hP)
    | (go_at_call 18; (with_reducible refine (nadd_is (q := 2) (n := 2) (t := 29) S3.out (by omega) F3.out D3.out E3.out).mono ?_); rintro e w4 ⟨rfl, hR, hP⟩; have S4 := Lib.hid hR; have P4 := Lib.hid (Part.trans (S' := [bw]) P3.out hP (fun _ _ hm => hm)); clear hR hP)
    | (go_at_call 19; (with_reducible refine (nsum_is (q := 2) (t := 29) S4.out (by omega) F4.out D4.out A4.out E4.out).mono ?_); rintro e w5 ⟨rfl, hR, hP⟩; have S5 := Lib.hid hR; have P5 := Lib.hid (Part.trans (S' := [bw]) P4.out hP (fun _ _ hm => hm)); clear hR hP)
    | (go_at_call 19; (with_reducible refine (nsum_is (q := 3) (t := 30) S5.out (by omega) F5.out D5.out A5.out E5.out).mono ?_); rintro e w6 ⟨rfl, hR, hP⟩; have S6 := Lib.hid hR; have P6 := Lib.hid (Part.trans (S' := [bw]) P5.out hP (fun _ _ hm => hm)); clear hR hP)
    | (go_at_call 20; (with_reducible refine (neach_is (q := 2) (t := 29) (m := 0) (K := 3) S6.out (by omega) F6.out rfl rfl).mono ?_); rw [L6.out]; rintro e w7 ⟨g, rfl, hg, hr, hR, hP⟩; have S7 := Lib.hid hR; have G7 := Lib.hid hr; have P7 := Lib.hid (Part.trans (S' := [bw]) P6.out hP (fun _ _ hm => hm)); clear hg hr hR hP)
    | (go_at_call 22; refine (words_yes (xs := [5, 1, 2]) (G7.out.alloc _).lies (Row.new w7 _ (u64s [5, 1, 2])).lies (by decide) rfl rfl).mono ?_; rintro e w8 ⟨rfl, hb⟩; have S8 := Lib.hid ((S7.out.alloc _).on hb); have P8 := Lib.hid (((P7.out.alloc _).then_ (Part.of_below hb (Nat.le_refl _) [bw]))); clear hb)
    | (go_at_call 18; (with_reducible refine (nadd_is (q := 3) (n := 4) (t := 30) S8.out (by omega) F7.out D7.out E7.out).mono ?_); rintro e w9 ⟨rfl, hR, hP⟩; have S9 := Lib.hid hR; have P9 := Lib.hid (Part.trans (S' := [bw]) P8.out hP (fun _ _ hm => hm)); clear hR hP)
    | (go_at_call 18; (with_reducible refine (nadd_is (q := 0) (n := 1) (t := 5) S9.out (by omega) F8.out D8.out E8.out).mono ?_); rintro e w10 ⟨rfl, hR, hP⟩; have P10 := Lib.hid (Part.trans (S' := [bw]) P9.out hP (fun _ _ hm => hm)); clear hR hP))
  go_ret
  exact ⟨rfl, P10.out.below (Nat.le_refl _) (by have := HBW.out; simp; omega)⟩
end Go.Proofs.Ytjehcgeodcpcaaa

/- THE WALK of the law 'SnapQuiet'. -/
import Derived.Test.YtiofbmgflhkjnaaPp
import Derived.Test.YtiofbmgflhkjnaaPg
namespace Go.Proofs.Ytiofbmgflhkjnaa
open Go Go.RowKit

/-- how many actions a scan takes during which nothing is put -/
def lastQ (n : Nat) (t : Int) : Nat := if t = 1 then n else 2 * n
/-- a scan during which nothing is put, behind s actions -/
structure QuietSt (W : World) (n br bk bw bp : Nat) (ws : List Int) (t : Int) (s : Nat) (wr : World) : Prop where
  st : SnSt W n br bk bw ws wr
  lop : W.heap.size ≤ bp
  le : s ≤ lastQ n t
  run : s < lastQ n t → ∃ c la lw va vw, ScanS wr W.heap.size bk bp t c la lw va vw ∧ ((s < n ∧ c = 0 ∧ la = [] ∧ va = .slice none 0 0 ∧ lw = ws.take s) ∨ (n ≤ s ∧ c = 1 ∧ la = ws ∧ lw = ws.take (s - n) ∧ t ≠ 1))
  over : s = lastQ n t → ∃ b, ScanE wr W.heap.size bk bp t (if t = 1 then 1 else 2) (!decide (t = 1)) ws b
theorem SnSt.parts {W wr w1 : World} {n br bk bw : Nat} {ws : List Int} {S : List Nat} (h : SnSt W n br bk bw ws wr) (hP : Part S wr w1) (hW : Words w1 bk bw ws) (h0 : br ∉ S) (hS : ∀ q ∈ S, W.heap.size ≤ q) : SnSt W n br bk bw ws w1 :=
  ⟨h.regs.next hP hW h0 rfl, h.len, h.lo, h.low.trans (hP.below h.low.size hS)⟩
theorem quiet_step {W wr : World} {n br bk bw bp s : Nat} {ws : List Int} {t : Int} (ht : 1 ≤ t) (h : QuietSt W n br bk bw bp ws t s wr) (hs : s < lastQ n t) :
    Calls Try.prog 14 #[.pointer (some ⟨bp, 0, none⟩)] wr fun e w' => (∃ v b, e = .returned (.tuple #[v, .bool b])) ∧ QuietSt W n br bk bw bp ws t (s + 1) w' := by
  obtain ⟨c, la, lw, va, vw, hS, hph⟩ := h.run hs
  have hlen := h.st.len
  have hpos := h.st.regs.pos
  have htop := h.st.regs.top
  have hW := h.st.regs.words
  have hlo := h.st.low.size
  have hvw := own_from hS.words
  have hbr : ∀ q, vw.ownBlock = some q → br ≠ q := fun q hq e => own_off hS.words h.st.regs.head (by decide) q hq e.symm
  have hbp : br ≠ bp := h.st.regs.head.ne hS.pend (by decide)
  have hset : ∀ q ∈ [bw, bp] ++ vw.ownBlock.toList, W.heap.size ≤ q := fun q hq => by
    simp at hq
    rcases hq with rfl | rfl | hq
    · exact h.st.lo
    · exact h.lop
    · exact hvw q hq
  have hbn : br ∉ [bw, bp] ++ vw.ownBlock.toList := by
    simp only [List.mem_append, List.mem_cons, List.not_mem_nil, or_false, not_or]
    refine ⟨⟨h.st.regs.ne, hbp⟩, fun hm => ?_⟩
    simp at hm
    exact hbr br hm rfl
  have hlw : lw.length = (if s < n then s else s - n) ∧ (lw = ws.take lw.length) ∧ lw.length < ws.length := by
    unfold lastQ at hs
    rcases hph with ⟨h1, _, _, _, rfl⟩ | ⟨h1, _, _, rfl, h2⟩
    · rw [if_pos h1]
      have : (ws.take s).length = s := by simp; omega
      exact ⟨this, by rw [this], by omega⟩
    · rw [if_neg h2] at hs
      rw [if_neg (by omega)]
      have : (ws.take (s - n)).length = s - n := by simp; omega
      exact ⟨this, by rw [this], by omega⟩
  obtain ⟨hl1, hl2, hl3⟩ := hlw
  obtain ⟨x, hx⟩ : ∃ x, ws[lw.length]? = some x := ⟨_, List.getElem?_eq_getElem hl3⟩
  have hnext : lw ++ [x] = ws.take (lw.length + 1) := by
    conv => lhs; rw [hl2]
    rw [List.take_add_one, hx]
    rfl
  have hu : ∀ y ∈ lw, U64 y := fun y hy => hW.ok y (by rw [hl2] at hy; exact List.mem_of_mem_take hy)
  by_cases hm : lw.length + 1 < ws.length
  · refine (scan_more hW (by omega) hS hx hlo hm).mono ?_
    rintro e w' ⟨rfl, hW', ⟨vw', hS', _⟩, hP⟩
    refine ⟨⟨_, _, rfl⟩, h.st.parts hP hW' hbn hset, h.lop, by omega, fun hs' => ⟨c, la, _, va, vw', hS', ?_⟩, fun he => ?_⟩
    · rcases hph with ⟨h1, h2, h3, h4, h5⟩ | ⟨h1, h2, h3, h4, h5⟩
      · left
        rw [if_pos h1] at hl1
        exact ⟨by omega, h2, h3, h4, by rw [hnext, hl1]⟩
      · right
        rw [if_neg (by omega)] at hl1
        exact ⟨by omega, h2, h3, by rw [hnext, hl1]; congr 1; omega, h5⟩
    · exfalso
      unfold lastQ at he
      rcases hph with ⟨h1, _⟩ | ⟨h1, _, _, _, h5⟩
      · rw [if_pos h1] at hl1
        split at he <;> omega
      · rw [if_neg (by omega)] at hl1
        rw [if_neg h5] at he
        omega
  · have hm' : lw.length + 1 = ws.length := by omega
    have hfull : lw ++ [x] = ws := by rw [hnext, hm', List.take_length]
    rcases hph with ⟨h1, rfl, rfl, rfl, h5⟩ | ⟨h1, rfl, rfl, h4, h5⟩
    · rw [if_pos h1] at hl1
      have hne : decide (lw ++ [x] = []) = false := by simp
      by_cases ht1 : t = 1
      · refine (scan_end hW (by omega) hS hx hlo hm' hu (by omega) hne (fun _ => by subst ht1; rfl)).mono ?_
        rintro e w' ⟨rfl, hW', ⟨b, hE, hb⟩, hP⟩
        rw [hfull] at hE
        refine ⟨⟨_, _, rfl⟩, h.st.parts hP hW' hbn hset, h.lop, by unfold lastQ; rw [if_pos ht1]; omega, fun hs' => ?_, fun _ => ⟨b, by rw [if_pos ht1]; simpa [ht1] using hE⟩⟩
        exfalso
        unfold lastQ at hs'
        rw [if_pos ht1] at hs'
        omega
      · refine (scan_again hW (by omega) hS hx hlo hm' hu (by omega) hne (by rw [beq_eq_false_iff_ne]; omega) (.inl ⟨rfl, rfl⟩)).mono ?_
        rintro e w' ⟨rfl, hW', ⟨va', vw', hS', _, _⟩, hP⟩
        rw [hfull] at hS'
        refine ⟨⟨_, _, rfl⟩, h.st.parts hP hW' hbn hset, h.lop, by unfold lastQ; rw [if_neg ht1]; omega, fun _ => ⟨1, ws, [], va', vw', hS', .inr ⟨by omega, rfl, rfl, ?_, ht1⟩⟩, fun he => ?_⟩
        · rw [show s + 1 - n = 0 by omega]; rfl
        · exfalso
          unfold lastQ at he
          rw [if_neg ht1] at he
          omega
    · rw [if_neg (by omega)] at hl1
      refine (scan_end hW (by omega) hS hx hlo hm' hu (by omega) (decide_eq_true hfull) (fun h => by cases h)).mono ?_
      rintro e w' ⟨rfl, hW', ⟨b, hE, hb⟩, hP⟩
      rw [hfull] at hE
      refine ⟨⟨_, _, rfl⟩, h.st.parts hP hW' hbn hset, h.lop, by unfold lastQ; rw [if_neg h5]; omega, fun hs' => ?_, fun _ => ⟨b, by rw [if_neg h5]; simpa [h5] using hE⟩⟩
      exfalso
      unfold lastQ at hs'
      rw [if_neg h5] at hs'
      omega
end Go.Proofs.Ytiofbmgflhkjnaa

/- THE WALKS of package hist: Merge and the document's Merge answer alike. -/
import Derived.Test.YtgmknhogogobjaaJc
import Derived.Deep.RegionLaw
import Derived.Deep.AppendLies
import Derived.Laws.MakeOwn
namespace Go.Proofs.Ytgmknhogogobjaa
open Go Go.RowKit
set_option maxRecDepth 100000
set_option maxHeartbeats 1600000
/-- what a Merge answers: a snapshot and a word, and its list is its own -/
def MergesTo (F : FuncId) (l h d : Int) (f1 f2 g : ShotH) (why : Int) : Prop :=
  ∀ (w : World) (A B : Option Addr) (c c' : Nat), Ext .u64 w A f1.bu → Ext .u64 w B f2.bu → Calls Try.prog F #[.agg #[.int .i64 l, .int .i64 h, .int .i64 d], .agg #[.int .u64 f1.c, .int .u64 f1.su, .int .i64 f1.le, .int .i64 f1.gr, .slice A f1.bu.length c], .agg #[.int .u64 f2.c, .int .u64 f2.su, .int .i64 f2.le, .int .i64 f2.gr, .slice B f2.bu.length c']] w fun e w' => ∃ A' n', e = .returned (.tuple #[.agg #[.int .u64 g.c, .int .u64 g.su, .int .i64 g.le, .int .i64 g.gr, .slice A' g.bu.length n'], .int .i64 why]) ∧ Ext .u64 w' A' g.bu ∧ Below w.heap.size w w'
section
variable {l h d : Int} {f1 f2 f : ShotH}
theorem check_le (hc : checkS l h d f = 0) : -1 ≤ f.le ∧ f.le ≤ 2305843009213693952 := by
  obtain ⟨r, hl⟩ := check_len hc
  obtain ⟨a1, a2, a3, a4, a5, a6⟩ := Sc.right_of r
  unfold checkS checkP at hc
  rw [if_neg (by rw [r]; decide), if_neg (by simpa using hl)] at hc
  by_cases b : f.c ≠ sumU f.bu
  · rw [if_pos b] at hc; cases hc
  · rw [if_neg b] at hc
    by_cases e : fitsP l h d f.bu f.su f.le f.gr = false
    · rw [if_pos e] at hc; cases hc
    · have e' : fitsP l h d f.bu f.su f.le f.gr = true := by simpa using e
      unfold fitsP at e'
      by_cases z : fI f.bu = f.bu.length
      · rw [if_pos z] at e'
        simp [fitsNone] at e'
        omega
      · rw [if_neg z] at e'
        simp [fitsB, isInB] at e'
        omega
theorem min_lem {a b : Int} (ha : -1 ≤ a ∧ a ≤ 2305843009213693952) (hb : -1 ≤ b ∧ b ≤ 2305843009213693952) : IntKind.i64.wrap (min (IntKind.u64.wrap a) (IntKind.u64.wrap b)) = lem a b := by
  unfold lem
  rw [IntKind.wrap_i64, IntKind.wrap_u64, IntKind.wrap_u64]
  split <;> omega
theorem add_len (hw1 : checkS l h d f1 = 0) (hw2 : checkS l h d f2 = 0) : (addU f1.bu f2.bu).length = f1.bu.length := by
  have h1 := (check_len hw1).2
  have h2 := (check_len hw2).2
  unfold addU
  rw [List.length_zipWith]
  omega
/-- the merged snapshot -/
def gS (f1 f2 : ShotH) : ShotH := ⟨IntKind.u64.wrap (f1.c + f2.c), IntKind.u64.wrap (f1.su + f2.su), lem f1.le f2.le, max f1.gr f2.gr, addU f1.bu f2.bu⟩
theorem merge_to (hl1 : f1.bu.length ≤ 17592186044416) (hl2 : f2.bu.length ≤ 17592186044416) (hw1 : checkS l h d f1 = 0) (hw2 : checkS l h d f2 = 0) : MergesTo 25 l h d f1 f2 (gS f1 f2) 0 := fun w A B c c' hA hB => by
  refine (merge_any hA hB hl1 hl2).mono fun e w' hM => ?_
  obtain ⟨hb, ⟨_, _, b', n', rfl, hlo, ho⟩ | ⟨why, hn, hy, _⟩⟩ := hM
  · rw [min_lem (check_le hw1) (check_le hw2), ← add_len hw1 hw2]
    rw [← add_len hw1 hw2] at ho
    exact ⟨_, n', rfl, own_ext ho, hb⟩
  · rcases hy with hy | ⟨_, hy⟩
    · exact absurd (hy.trans hw1) hn
    · exact absurd (hy.trans hw2) hn
theorem ref_to (hl1 : f1.bu.length ≤ 17592186044416) (h01 : ∀ (j : Nat) (x : Int), f1.bu[j]? = some x → 0 ≤ x) (h02 : ∀ (j : Nat) (x : Int), f2.bu[j]? = some x → 0 ≤ x) (hw1 : checkS l h d f1 = 0) (hw2 : checkS l h d f2 = 0) : MergesTo 26 l h d f1 f2 (gS f1 f2) 0 := fun w A B c c' hA hB => by
  refine (refMerge_yes hA hB hl1 h01 h02 hw1 hw2).mono fun e w' hM => ?_
  obtain ⟨A', n', rfl, ho, hb⟩ := hM
  rw [← add_len hw1 hw2]
  rw [← add_len hw1 hw2] at ho
  exact ⟨A', n', rfl, own_ext ho, hb⟩
theorem merge_not {why : Int} (hl1 : f1.bu.length ≤ 17592186044416) (hl2 : f2.bu.length ≤ 17592186044416) (hn : why ≠ 0) (hw : checkS l h d f1 = why ∨ (checkS l h d f1 = 0 ∧ checkS l h d f2 = why)) : MergesTo 25 l h d f1 f2 ⟨0, 0, 0, 0, []⟩ why := fun w A B c c' hA hB => by
  refine (merge_any hA hB hl1 hl2).mono fun e w' hM => ?_
  obtain ⟨hb, ⟨h1, h2, _⟩ | ⟨y, hn', hy, rfl⟩⟩ := hM
  · rcases hw with hw | ⟨_, hw⟩
    · exact absurd (hw.symm.trans h1) hn
    · exact absurd (hw.symm.trans h2) hn
  · have e : y = why := by
      rcases hy with hy | ⟨hy0, hy⟩ <;> rcases hw with hw | ⟨hw0, hw⟩ <;> omega
    subst e
    exact ⟨none, 0, rfl, ext_nil w', hb⟩
theorem ref_not {why : Int} (hl1 : f1.bu.length ≤ 17592186044416) (hl2 : f2.bu.length ≤ 17592186044416) (h01 : ∀ (j : Nat) (x : Int), f1.bu[j]? = some x → 0 ≤ x) (h02 : ∀ (j : Nat) (x : Int), f2.bu[j]? = some x → 0 ≤ x) (hn : why ≠ 0) (hw : checkS l h d f1 = why ∨ (checkS l h d f1 = 0 ∧ checkS l h d f2 = why)) : MergesTo 26 l h d f1 f2 ⟨0, 0, 0, 0, []⟩ why := fun w A B c c' hA hB => by
  refine (refMerge_no hA hB hl1 hl2 h01 h02 hn hw).mono fun e w' hM => ?_
  obtain ⟨rfl, hb⟩ := hM
  exact ⟨none, 0, rfl, ext_nil w', hb⟩
end
end Go.Proofs.Ytgmknhogogobjaa

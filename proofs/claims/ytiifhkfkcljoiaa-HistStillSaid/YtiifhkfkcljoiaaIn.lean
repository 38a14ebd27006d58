/- THE WALKS of package hist: an operation that is done alone, as plain data. -/
import Derived.Test.YtiifhkfkcljoiaaIm
import Derived.Deep.RegionLaw
import Derived.Deep.AppendLies
import Derived.Laws.MakeOwn
namespace Go.Proofs.Ytiifhkfkcljoiaa
open Go Go.RowKit
set_option maxRecDepth 100000
/-- what a record alone makes of the words, from where it stands -/
def r0 (ws : List Int) (o : OpH) : List Int := if o.at_ = 0 then ws.set o.i (IntKind.u64.wrap (gw ws o.i + o.n)) else ws
def r1 (m : Nat) (ws : List Int) (o : OpH) : List Int := if o.at_ ≤ 1 then ws.set m (IntKind.u64.wrap (gw ws m + IntKind.u64.wrap (o.v * o.n))) else ws
def r2 (m : Nat) (ws : List Int) (o : OpH) : List Int := if o.at_ ≤ 2 then (if o.v < gw ws (m + 1) then ws.set (m + 1) o.v else ws) else ws
def r3 (m : Nat) (ws : List Int) (o : OpH) : List Int := if o.at_ ≤ 3 then (if gw ws (m + 2) < v1 o.v then ws.set (m + 2) (v1 o.v) else ws) else ws
def r4 (m : Nat) (ws : List Int) (o : OpH) : List Int := ws.set (m + 3) (IntKind.u64.wrap (gw ws (m + 3) + o.n))
def finW (m : Nat) (ws : List Int) (o : OpH) : List Int := if o.k = 1 ∧ o.en = false then r4 m (r3 m (r2 m (r1 m (r0 ws o) o) o) o) o else ws
/-- what a show alone has at its end -/
structure ShotH where
  c : Int
  su : Int
  le : Int
  gr : Int
  bu : List Int
def finS (m : Nat) (ws : List Int) (o : OpH) : ShotH :=
  if o.k = 1 then ⟨o.c, o.su, o.le, o.gr, o.bu⟩
  else ⟨if o.at_ = 0 then gw ws (m + 3) else o.c, if o.at_ ≤ 3 then gw ws m else o.su, if o.at_ ≤ 1 then wrap64 (gw ws (m + 1)) else o.le, if o.at_ ≤ 2 then wrap64 (wrap64 (gw ws (m + 2)) - 1) else o.gr, o.bu ++ (ws.take m).drop o.bu.length⟩
def shotH (m : Nat) (ws : List Int) : ShotH := ⟨gw ws (m + 3), gw ws m, wrap64 (gw ws (m + 1)), wrap64 (wrap64 (gw ws (m + 2)) - 1), ws.take m⟩
/-- the form of an operation -/
def WfH (m : Nat) (o : OpH) : Prop :=
  (o.k = 1 ∧ o.bu = [] ∧ (o.en = false → o.at_ ≤ 4 ∧ (o.ld = true → o.at_ = 2 ∨ o.at_ = 3))) ∨
  (o.k = 2 ∧ o.ld = false ∧ ((o.en = false ∧ o.bu = [] ∧ o.at_ ≤ 3) ∨ (o.at_ = 4 + o.bu.length ∧ ((o.en = false ∧ o.bu.length < m) ∨ (o.en = true ∧ o.bu.length = m)))))
theorem NextH.wf {bp m : Nat} {o : OpH} {w : World} {nx : Value} {s : ShM} (h : NextH bp m o w nx s) : WfH m o := by
  obtain ⟨_, ⟨hk, hb, _, h⟩ | ⟨hk, hl, ⟨he, hb, _, h⟩ | ⟨bb, _, _, ha, h⟩⟩⟩ := h
  · refine .inl ⟨hk, hb, fun he => ?_⟩
    rcases h with ⟨a, _⟩ | ⟨_, a, b, _⟩ | ⟨_, a, b, _⟩ | ⟨_, a, b, _⟩ | ⟨_, a, b, _⟩ | ⟨_, a, b, _⟩ | ⟨_, a, b, _⟩ | ⟨_, a, b, _⟩
    · rw [he] at a; cases a
    all_goals exact ⟨by omega, fun h => by first | omega | (rw [b] at h; cases h)⟩
  · refine .inr ⟨hk, hl, .inl ⟨he, hb, ?_⟩⟩
    rcases h with ⟨a, _⟩ | ⟨a, _⟩ | ⟨a, _⟩ | ⟨a, _⟩ <;> omega
  · refine .inr ⟨hk, hl, .inr ⟨ha, ?_⟩⟩
    rcases h with ⟨a, b, _⟩ | ⟨a, b, _⟩
    · exact .inl ⟨a, b⟩
    · exact .inr ⟨a, b⟩
/-- nobody else has turned the words since it looked -/
def AloneH (m : Nat) (ws : List Int) (o : OpH) : Prop := o.k = 1 → o.ld = true → (o.at_ = 2 → o.saw = gw ws (m + 1) ∧ o.v < o.saw) ∧ (o.at_ = 3 → o.saw = gw ws (m + 2) ∧ o.saw < v1 o.v)
def muH (m : Nat) (o : OpH) : Nat := if o.en = true then 0 else if o.k = 1 then 12 - 2 * o.at_ - (if o.ld = true then 1 else 0) else m + 6 - o.at_
theorem alone_step {m : Nat} {ws : List Int} {o : OpH} (hw : WfH m o) (ha : AloneH m ws o) (he : o.en = false) (hl : m < ws.length) :
    AloneH m (stepW m ws o) (stepH m ws o) ∧ finW m (stepW m ws o) (stepH m ws o) = finW m ws o ∧ finS m (stepW m ws o) (stepH m ws o) = finS m ws o ∧ muH m (stepH m ws o) < muH m o := by
  obtain ⟨k, v, n, i, at_, ld, saw, en, c, su, le, gr, bu⟩ := o
  dsimp only at he
  subst he
  rcases hw with ⟨hk, hb, h⟩ | ⟨hk, hld, h⟩
  · dsimp only at hk hb
    subst hk hb
    obtain ⟨h4, hl2⟩ := h rfl
    dsimp only at h4 hl2
    unfold AloneH at ha
    have ha := ha rfl
    dsimp only at ha
    have hat : at_ = 0 ∨ at_ = 1 ∨ at_ = 2 ∨ at_ = 3 ∨ at_ = 4 := by omega
    rcases hat with rfl | rfl | rfl | rfl | rfl
    · have hld : ld = false := by cases ld; rfl; have := hl2 rfl; omega
      subst hld
      simp [AloneH, stepW, stepH, finW, finS, muH, r0, r1, r2, r3, r4]
    · have hld : ld = false := by cases ld; rfl; have := hl2 rfl; omega
      subst hld
      simp [AloneH, stepW, stepH, finW, finS, muH, r0, r1, r2, r3, r4]
    · cases ld with
      | false =>
        by_cases hv : v < gw ws (m + 1)
        · simp [AloneH, stepW, stepH, finW, finS, muH, r0, r1, r2, r3, r4, hv]
        · simp [AloneH, stepW, stepH, finW, finS, muH, r0, r1, r2, r3, r4, hv]
      | true =>
        obtain ⟨e1, e2⟩ := (ha rfl).1 rfl
        subst e1
        simp [AloneH, stepW, stepH, finW, finS, muH, r0, r1, r2, r3, r4, e2]
    · cases ld with
      | false =>
        by_cases hv : gw ws (m + 2) < v1 v
        · simp [AloneH, stepW, stepH, finW, finS, muH, r0, r1, r2, r3, r4, hv]
        · simp [AloneH, stepW, stepH, finW, finS, muH, r0, r1, r2, r3, r4, hv]
      | true =>
        obtain ⟨e1, e2⟩ := (ha rfl).2 rfl
        subst e1
        simp [AloneH, stepW, stepH, finW, finS, muH, r0, r1, r2, r3, r4, e2]
    · have hld : ld = false := by cases ld; rfl; have := hl2 rfl; omega
      subst hld
      simp [AloneH, stepW, stepH, finW, finS, muH, r0, r1, r2, r3, r4]
  · dsimp only at hk hld
    subst hk hld
    rcases h with ⟨_, hb, h3⟩ | ⟨hat, ⟨_, hlt⟩ | ⟨a, _⟩⟩
    · dsimp only at hb h3
      subst hb
      have hat : at_ = 0 ∨ at_ = 1 ∨ at_ = 2 ∨ at_ = 3 := by omega
      rcases hat with rfl | rfl | rfl | rfl <;> (simp [AloneH, stepW, stepH, finW, finS, muH] <;> omega)
    · dsimp only at hat hlt
      subst hat
      have q0 : ¬ (4 + bu.length = 0) := by omega
      have q1 : ¬ (4 + bu.length = 1) := by omega
      have q2 : ¬ (4 + bu.length = 2) := by omega
      have q3 : ¬ (4 + bu.length = 3) := by omega
      have q4 : ¬ (4 + bu.length ≤ 1) := by omega
      have q5 : ¬ (4 + bu.length ≤ 2) := by omega
      have q6 : ¬ (4 + bu.length ≤ 3) := by omega
      have p1 : ¬ (4 + bu.length + 1 ≤ 1) := by omega
      have p2 : ¬ (4 + bu.length + 1 ≤ 2) := by omega
      have p3 : ¬ (4 + bu.length + 1 ≤ 3) := by omega
      have hd : (ws.take m).drop bu.length = gw ws bu.length :: (ws.take m).drop (bu.length + 1) := by
        rw [List.drop_eq_getElem_cons (by simp; omega)]
        congr 1
        rw [List.getElem_take]
        have := gw_get (ws := ws) (j := bu.length) (by omega)
        rw [List.getElem?_eq_getElem (by omega)] at this
        exact Option.some.inj this
      refine ⟨?_, ?_, ?_, ?_⟩
      · simp [AloneH, stepH, q1, q2, q3]
      · simp [stepH, stepW, finW, q1, q2, q3]
      · simp [stepH, stepW, finS, q1, q2, q3, q4, q5, q6, p1, p2, p3]
        exact hd.symm
      · simp only [muH, stepH, q0, q1, q2, q3, if_false, Bool.false_eq_true]
        by_cases hz : bu.length + 1 = m
        · simp [hz]; omega
        · simp [hz]; omega
    · cases a
theorem alone_new {m : Nat} {ws : List Int} {v n : Int} {i : Nat} : AloneH m ws (newR v n i) := by simp [AloneH, newR]
theorem alone_show {m : Nat} {ws : List Int} : AloneH m ws newS := by simp [AloneH, newS]
/-- the words behind a record, done whole -/
def recW (m : Nat) (ws : List Int) (v n : Int) (i : Nat) : List Int := finW m ws (newR v n i)
theorem fin_show (m : Nat) (ws : List Int) : finS m ws newS = shotH m ws := by simp [finS, newS, shotH]
theorem fin_over {m : Nat} {ws : List Int} {o : OpH} (hw : WfH m o) (he : o.en = true) (hl : m < ws.length) : finW m ws o = ws ∧ finS m ws o = ⟨o.c, o.su, o.le, o.gr, o.bu⟩ := by
  obtain ⟨k, v, n, i, at_, ld, saw, en, c, su, le, gr, bu⟩ := o
  dsimp only at he
  subst he
  rcases hw with ⟨hk, hb, h⟩ | ⟨hk, hld, ⟨a, _⟩ | ⟨hat, ⟨a, _⟩ | ⟨_, hb⟩⟩⟩
  · dsimp only at hk
    subst hk
    simp [finW, finS]
  · cases a
  · cases a
  · dsimp only at hk hat hb
    subst hk hat
    have q0 : ¬ (4 + bu.length = 0) := by omega
    have q4 : ¬ (4 + bu.length ≤ 1) := by omega
    have q5 : ¬ (4 + bu.length ≤ 2) := by omega
    have q6 : ¬ (4 + bu.length ≤ 3) := by omega
    have hd : (ws.take m).drop bu.length = [] := List.drop_eq_nil_of_le (by simp; omega)
    simp [finW, finS, q4, q5, q6]
    omega
end Go.Proofs.Ytiifhkfkcljoiaa

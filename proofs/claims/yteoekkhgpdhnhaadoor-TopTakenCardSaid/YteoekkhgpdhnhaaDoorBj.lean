/- THE WALKS of package quota: Take, Back, Left; begins; QuotaNil. -/
import Derived.Test.YteoekkhgpdhnhaaDoorBi
import Derived.Laws.StructEq
namespace Go.Proofs.YteoekkhgpdhnhaaDoor
open Go Go.RowKit
set_option maxHeartbeats 1600000
set_option maxRecDepth 100000
/-- an operation done whole -/
def wholeB (ba : Int) (ws : List Int) (k : Int) (wk : Nat) : List Int × OpB := runB ba (ws.length + 5) (ws, newB k wk)
def ansB (ba : Int) (ws : List Int) (k : Int) (wk : Nat) : Int := (wholeB ba ws k wk).2.ans
theorem muO_new (n : Nat) (k : Int) (wk : Nat) : muO n (newB k wk) ≤ n + 5 := by
  by_cases h1 : k = 1
  · simp [muO, newB, h1]
  · by_cases h2 : k = 2
    · simp [muO, newB, h2]
    · simp [muO, newB, h1, h2]
theorem runB_length (ba : Int) (m : Nat) (ws : List Int) (o : OpB) : (runB ba m (ws, o)).1.length = ws.length := by
  induction m generalizing ws o with
  | zero => rfl
  | succ m ih => unfold runB; rw [ih]; exact stepBW_length _ _ _
theorem wholeB_length (ba : Int) (ws : List Int) (k : Int) (wk : Nat) : (wholeB ba ws k wk).1.length = ws.length := runB_length _ _ _ _
theorem wholeB_ends {w : World} {bq bk bw n wk : Nat} {ba : Int} {ws : List Int} {k : Int} (h : QuoM w bq bk bw ba ws) (hn : ws.length = n + 1) (hf : FineB n k wk) : (wholeB ba ws k wk).2.ph = 9 :=
  runB_ends (AloneB.new _ _ _) (by rw [hn]; exact OkB.new hf) h.words.ok h.least h.lowb _ (muO_new _ _ _)
theorem bdo_whole {w : World} {bq bk bw n wk : Nat} {ba : Int} {ws : List Int} {k : Int} (h : QuoM w bq bk bw ba ws) (hn : ws.length = n + 1) (hf : FineB n k wk) :
    Calls Tryd.prog 40 #[.pointer (some ⟨bq, 0, none⟩), .agg #[.int .u8 k, .int .i64 (wk : Int)]] w (WholeB w bq bk bw ba (wholeB ba ws k wk).1 (.tuple #[.int .i64 (ansB ba ws k wk), .int .i64 0])) :=
  bdo_op h hn hf rfl (wholeB_ends h hn hf)
section
variable {w : World} {bq bk bw n wk : Nat} {ba i : Int} {ws : List Int}
theorem bleft_yes (h : QuoM w bq bk bw ba ws) (hn : ws.length = n + 1) :
    Calls Tryd.prog 13 #[.pointer (some ⟨bq, 0, none⟩)] w (WholeB w bq bk bw ba (wholeB ba ws 3 0).1 (.int .i64 (ansB ba ws 3 0))) := by
  have H0 : Calls Tryd.prog 40 #[.pointer (some ⟨bq, 0, none⟩), .agg #[.int .u8 3, .int .i64 0]] w (WholeB w bq bk bw ba (wholeB ba ws 3 0).1 (.tuple #[.int .i64 (ansB ba ws 3 0), .int .i64 0])) := bdo_whole h hn (.inr (.inr ⟨rfl, rfl⟩))
  have H := Lib.hid H0
  clear h hn H0
  go_enter Tryd.func13, Tryd.ntmps13
  go_wp2_with (go_at_call 40; (with_reducible refine H.out.mono ?_); rintro e w1 ⟨rfl, hQ, hP⟩; have HQ := Lib.hid hQ; have HP := Lib.hid hP; clear hQ hP)
  go_ret
  exact ⟨rfl, HQ.out, HP.out⟩
theorem bleft_nil : Calls Tryd.prog 13 #[.pointer none] w fun e w' => e = .returned (.int .i64 0) ∧ Below w.heap.size w w' := by
  go_enter Tryd.func13, Tryd.ntmps13
  go_wp2_with (go_at_call 40; refine bdo_nil.mono ?_; rintro e w1 ⟨rfl, hQ⟩; have HQ := Lib.hid hQ; clear hQ)
  go_ret
  exact ⟨rfl, HQ.out⟩
theorem gather_run (ba : Int) (ws : List Int) (wk : Nat) : ∀ (m c : Nat) (s : Int) (saw hand ans : Int), (runB ba m (ws, ⟨3, wk, 0, saw, hand, c, s, ans⟩)).1 = ws := by
  intro m
  induction m with
  | zero => intro c s saw hand ans; rfl
  | succ m ih =>
    intro c s saw hand ans
    unfold runB
    by_cases e : c + 1 = ws.length
    · rw [show stepB ba ws ⟨3, wk, 0, saw, hand, c, s, ans⟩ = ⟨3, wk, 9, saw, hand, c + 1, IntKind.u64.wrap (s + ws.getD c 0), IntKind.i64.wrap (IntKind.u64.wrap (s + ws.getD c 0))⟩ by simp [stepB, e], show stepBW ba ws ⟨3, wk, 0, saw, hand, c, s, ans⟩ = ws by simp [stepBW], runB_over rfl]
    · rw [show stepB ba ws ⟨3, wk, 0, saw, hand, c, s, ans⟩ = ⟨3, wk, 0, saw, hand, c + 1, IntKind.u64.wrap (s + ws.getD c 0), ans⟩ by simp [stepB, e], show stepBW ba ws ⟨3, wk, 0, saw, hand, c, s, ans⟩ = ws by simp [stepBW]]
      exact ih _ _ _ _ _
theorem left_same (ba : Int) (ws : List Int) : (wholeB ba ws 3 0).1 = ws := gather_run _ _ _ _ _ _ _ _ _
end
end Go.Proofs.YteoekkhgpdhnhaaDoor

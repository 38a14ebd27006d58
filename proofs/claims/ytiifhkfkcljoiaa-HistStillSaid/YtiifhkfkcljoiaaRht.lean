/- PROVED HERE: 'HistStill': whatever the scale, the operations and the schedule: when all operations have ended, each number is in its bucket, as often as it was recorded; the count, the sum, the least and the greatest are those of all; and the snapshot may be. No condition. -/
import Derived.Test.YtiifhkfkcljoiaaRi
import Derived.Test.YtiifhkfkcljoiaaFd
namespace Go.Proofs.Ytiifhkfkcljoiaa
open Go.ChangeShapes Go.WideShapes Go.ChangeAt Go.RowKit Go.Deep Go.Joins

set_option maxRecDepth 100000
theorem histStill_lifted (os : Os) (started : os.Started) (H : Type) (enc : TypeId × Value → H) :
    ReturnsInHanded {} Try.checked os 6 .any (Rows.histStillSpec.pre6 enc Try.prog Try.f6 Rows.histStillRow.domain false) (Rows.histStillSpec.post enc Try.prog Try.f6 false true false false) := by
  refine returnsInHanded_of_change_sized (C := Try.checked) own0 started (by kernel_rfl) Try.func6
    (ChangeSpec.witness6 (enc := enc) (C := Try.checked) false ⟨#[], #[.agg #[.int .i64 0, .int .i64 0, .int .i64 0], .slice none 0 0, .slice none 0 0], []⟩ 8 (by kernel_rfl) (by kernel_rfl) (by kernel_rfl) (by kernel_rfl)) ?_
  intro W base args ds gs before hval0 hW _ hsz0 _
  have hsz : (DataW.weightsEach Try.prog (Try.f6.params.toList ++ Rows.histStillSpec.plain.varTypes Try.prog) (ds ++ gs)).all (· ≤ reachBytes) = true := hsz0
  clear hsz0
  have hval : ∀ (j : Nat) t v, Try.f6.params[j]? = some t → args[j]? = some v → Value.okWide Try.prog W .any base t v := hval0
  have hW' := hW
  obtain ⟨p, q, hA0, hV, rfl, _, _⟩ := hW
  have hA : DataW.TrodAll enc Try.prog W 0 (fun _ => true) true Try.f6.params.toList args.toList ds p := hA0
  rw [Try.params6] at hA hval hsz
  obtain ⟨v0, v1, v2, d0, d1, d2, p0, p1, p2, rfl, rfl, rfl, h0, h1, h2⟩ := trodAll_three hA
  obtain ⟨rfl, rfl⟩ := trodVars_none hV
  obtain ⟨l, h, d, rfl, rfl, rfl, w0, w1, w2⟩ := open_sc (hval 0 23 v0 rfl rfl) h0
  have h1k := h1
  have h2k := h2
  obtain ⟨A1, ops, cap1, rfl, hE1, hwf1, hd1⟩ := open_triples Try.underlying24 Try.underlying40 oneOp cOp Try.underlying37 Try.underlying2 Try.underlying38 (hval 1 24 v1 rfl rfl) h1
  obtain ⟨A2, xs, cap2, rfl, hE2, hwf2, hd2⟩ := open_nums Try.underlying25 Try.underlying3 c1_int (hval 2 25 v2 rfl rfl) h2
  clear hA0 hval0
  simp only [List.append_nil, List.nil_append] at hW'
  have hlt1 : ∀ x ∈ p1, x.block < W.heap.size := fun x hx => hW'.lt x (by simp [hx])
  have hlt2 : ∀ x ∈ p2, x.block < W.heap.size := fun x hx => hW'.lt x (by simp [hx])
  have hr1 : ops.length * 24 ≤ 140737488355328 := by
    rcases hd1 with rfl | ⟨el, sp, rfl, hel⟩
    · simp
    · have := sized_slice hsz (j := 1) (t := 24) (e := 40) rfl rfl Try.underlying24
      rw [bOp] at this
      simp only [reachBytes] at this
      omega
  have hr2 : xs.length ≤ 17592186044416 := by
    rcases hd2 with rfl | ⟨el, sp, rfl, hel⟩
    · simp
    · have := sized_slice hsz (j := 2) (t := 25) (e := 3) rfl rfl Try.underlying25
      rw [b8_int] at this
      simp only [reachBytes] at this
      omega
  have hwalk : Calls Try.prog 6 #[.agg #[.int .i64 l, .int .i64 h, .int .i64 d], .slice A1 ops.length cap1, .slice A2 xs.length cap2] W fun e w' => e = .returned (.bool true) ∧ Below W.heap.size W w' := by
    cases r : Sc.rightB l h d with
    | false => exact histStill_no r W
    | true => exact histStill_yes r W hE1 (fun op hop => (u64_bounds (hwf1 op hop).2.2).1) hr1 hE2 hr2
  refine hwalk.mono fun e W' ⟨he, hb⟩ => ?_
  subst he
  have t1 := Below.trod laid0 (by kernel_rfl) (of_decide_eq_true (by kernel_rfl)) h1k hb hlt1
  have t2 := Below.trod laid0 (by kernel_rfl) (of_decide_eq_true (by kernel_rfl)) h2k hb hlt2
  exact ⟨_, rfl, _, _, _, [], _, [], hW', trodAll_mk1 (shut_bool Try.underlying4 true), trodAll_mk3 (shut_sc w0 w1 w2) t1 t2, rfl, hb.frame _, fun h => by cases h⟩

theorem histStill_holds : Rows.HistStillSaid :=
  OpenClaim.holds_of_wide 6 Try.f6 rfl rfl rfl rfl rfl rfl rfl ⟨rfl, rfl, rfl, rfl, rfl⟩ rfl rfl rfl rfl rfl (by kernel_rfl) Try.func6 (by kernel_rfl)
    (of_decide_eq_true (by kernel_rfl)) (by unfold Func.isWrapper; first | (rw [if_pos (by decide +kernel)]; kernel_rfl) | (rw [if_neg (by decide +kernel)]; exact ⟨rfl, rfl⟩))
    (fun os started H enc _ => histStill_lifted os started H enc)
end Go.Proofs.Ytiifhkfkcljoiaa

/- PROVED HERE: 'QuotaConserved', whatever the limit, the batch, the number of workers, the operations and the schedule: behind each action what the cells have, what was taken and what is in hand is the limit. No condition. -/
import Derived.Test.YtddlalljdecdoaaRq
import Derived.Test.YtddlalljdecdoaaBo
namespace Go.Proofs.Ytddlalljdecdoaa
open Go.ChangeShapes Go.WideShapes Go.ChangeAt Go.RowKit Go.Joins

set_option maxRecDepth 100000 in
theorem quotaConserved_lifted (os : Os) (started : os.Started) (H : Type) (enc : TypeId × Value → H) :
    ReturnsInHanded {} Try.checked os 6 .any (Rows.quotaConservedSpec.pre6 enc Try.prog Try.f6 Rows.quotaConservedRow.domain false) (Rows.quotaConservedSpec.post enc Try.prog Try.f6 false true false false) := by
  refine returnsInHanded_of_change_sized (C := Try.checked) own0 started (by kernel_rfl) Try.func6
    (ChangeSpec.witness6 (enc := enc) (C := Try.checked) false ⟨#[], #[.int .i64 0, .int .i64 0, .int .i64 0, .slice none 0 0, .slice none 0 0], []⟩ 8 (by kernel_rfl) (by kernel_rfl) (by kernel_rfl) (by kernel_rfl)) ?_
  intro W base args ds gs before hval0 hW _ hsz0 _
  have hsz : (DataW.weightsEach Try.prog (Try.f6.params.toList ++ Rows.quotaConservedSpec.plain.varTypes Try.prog) (ds ++ gs)).all (· ≤ reachBytes) = true := hsz0
  clear hsz0
  have hval : ∀ (j : Nat) t v, Try.f6.params[j]? = some t → args[j]? = some v → Value.okWide Try.prog W .any base t v := hval0
  have hW' := hW
  obtain ⟨p, q, hA0, hV, rfl, _, _⟩ := hW
  have hA : DataW.TrodAll enc Try.prog W 0 (fun _ => true) true Try.f6.params.toList args.toList ds p := hA0
  rw [Try.params6] at hA hval hsz
  obtain ⟨v0, v1, v2, v3, v4, d0, d1, d2, d3, d4, p0, p1, p2, p3, p4, rfl, rfl, rfl, h0, h1, h2, h3, h4⟩ := trodAll_five hA
  obtain ⟨rfl, rfl⟩ := trodVars_none hV
  obtain ⟨limit, rfl, rfl, rfl, w0⟩ := open_int Try.underlying2 (hval 0 2 v0 rfl rfl) h0
  obtain ⟨ba, rfl, rfl, rfl, w1⟩ := open_int Try.underlying2 (hval 1 2 v1 rfl rfl) h1
  obtain ⟨n, rfl, rfl, rfl, w2⟩ := open_int Try.underlying3 (hval 2 3 v2 rfl rfl) h2
  have h3k := h3
  obtain ⟨A3, ops, cap3, rfl, hE3, hwf3, hd3⟩ := open_pairs Try.underlying22 Try.underlying37 oneQop cQop Try.underlying35 Try.underlying3 (hval 3 22 v3 rfl rfl) h3
  have h4k := h4
  obtain ⟨A4, xs, cap4, rfl, hE4, hwf4, hd4⟩ := open_nums Try.underlying23 Try.underlying3 c1_int (hval 4 23 v4 rfl rfl) h4
  clear hA0 hval0
  simp only [List.append_nil, List.nil_append] at hW'
  have hlt3 : ∀ x ∈ p3, x.block < W.heap.size := fun x hx => hW'.lt x (by simp [hx])
  have hlt4 : ∀ x ∈ p4, x.block < W.heap.size := fun x hx => hW'.lt x (by simp [hx])
  have hr3 : ops.length * 16 ≤ 140737488351232 := by
    rcases hd3 with rfl | ⟨el, sp, rfl, hel⟩
    · simp
    · have := sized_slice hsz (j := 3) (t := 22) (e := 37) rfl rfl Try.underlying22
      rw [bQop] at this
      simp only [reachBytes] at this
      omega
  have hr4 : xs.length * 8 ≤ 140737488351232 := by
    rcases hd4 with rfl | ⟨el, sp, rfl, hel⟩
    · simp
    · have := sized_slice hsz (j := 4) (t := 23) (e := 3) rfl rfl Try.underlying23
      rw [b8_int] at this
      simp only [reachBytes] at this
      omega
  have hwalk : Calls Try.prog 6 #[.int .i64 limit, .int .i64 ba, .int .i64 n, .slice A3 ops.length cap3, .slice A4 xs.length cap4] W fun e w' => e = .returned (.bool true) ∧ Below W.heap.size W w' := by
    by_cases hf : FitsB limit ba n
    · obtain ⟨m, rfl⟩ := Int.eq_ofNat_of_zero_le (show 0 ≤ n by unfold FitsB at hf; omega)
      exact conserved_yes hf W hE3 hr3 hE4 hr4
    · exact conserved_no hf W
  refine hwalk.mono fun e W' ⟨he, hb⟩ => ?_
  subst he
  exact ⟨_, rfl, _, _, _, [], _, [], hW', trodAll_mk1 (shut_bool Try.underlying4 true), trodAll_mk5 (shut_int Try.underlying2 w0) (shut_int Try.underlying2 w1) (shut_int Try.underlying3 w2) (Below.trod laid0 (by kernel_rfl) (of_decide_eq_true (by kernel_rfl)) h3k hb hlt3) (Below.trod laid0 (by kernel_rfl) (of_decide_eq_true (by kernel_rfl)) h4k hb hlt4), rfl, hb.frame _, fun h => by cases h⟩

theorem quotaConserved_holds : Rows.QuotaConservedSaid :=
  OpenClaim.holds_of_wide 6 Try.f6 rfl rfl rfl rfl rfl rfl rfl ⟨rfl, rfl, rfl, rfl, rfl⟩ rfl rfl rfl rfl rfl (by kernel_rfl) Try.func6 (by kernel_rfl)
    (of_decide_eq_true (by kernel_rfl)) (by unfold Func.isWrapper; first | (rw [if_pos (by decide +kernel)]; kernel_rfl) | (rw [if_neg (by decide +kernel)]; exact ⟨rfl, rfl⟩))
    (fun os started H enc _ => quotaConserved_lifted os started H enc)
end Go.Proofs.Ytddlalljdecdoaa

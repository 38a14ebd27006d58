/- PROVED HERE: 'RingBetween', whatever the number of slots, their width, the operations and the schedule: a sum that is stepped among adds lies between what had been added ahead of it and what had begun to be added when it ended. No condition. -/
import Derived.Test.YtjehcgeodcpcaaaRr
import Derived.Test.YtjehcgeodcpcaaaLh
namespace Go.Proofs.Ytjehcgeodcpcaaa
open Go.ChangeShapes Go.WideShapes Go.ChangeAt Go.RowKit Go.Joins

set_option maxRecDepth 100000 in
theorem ringBetween_lifted (os : Os) (started : os.Started) (H : Type) (enc : TypeId × Value → H) :
    ReturnsInHanded {} Try.checked os 6 .any (Rows.ringBetweenSpec.pre6 enc Try.prog Try.f6 Rows.ringBetweenRow.domain false) (Rows.ringBetweenSpec.post enc Try.prog Try.f6 false true false false) := by
  refine returnsInHanded_of_change_sized (C := Try.checked) own0 started (by kernel_rfl) Try.func6
    (ChangeSpec.witness6 (enc := enc) (C := Try.checked) false ⟨#[], #[.int .i64 0, .int .i64 0, .slice none 0 0, .slice none 0 0], []⟩ 8 (by kernel_rfl) (by kernel_rfl) (by kernel_rfl) (by kernel_rfl)) ?_
  intro W base args ds gs before hval0 hW _ hsz0 _
  have hsz : (DataW.weightsEach Try.prog (Try.f6.params.toList ++ Rows.ringBetweenSpec.plain.varTypes Try.prog) (ds ++ gs)).all (· ≤ reachBytes) = true := hsz0
  clear hsz0
  have hval : ∀ (j : Nat) t v, Try.f6.params[j]? = some t → args[j]? = some v → Value.okWide Try.prog W .any base t v := hval0
  have hW' := hW
  obtain ⟨p, q, hA0, hV, rfl, _, _⟩ := hW
  have hA : DataW.TrodAll enc Try.prog W 0 (fun _ => true) true Try.f6.params.toList args.toList ds p := hA0
  rw [Try.params6] at hA hval hsz
  obtain ⟨v0, v1, v2, v3, d0, d1, d2, d3, p0, p1, p2, p3, rfl, rfl, rfl, h0, h1, h2, h3⟩ := trodAll_four hA
  obtain ⟨rfl, rfl⟩ := trodVars_none hV
  obtain ⟨n, rfl, rfl, rfl, w0⟩ := open_int Try.underlying3 (hval 0 3 v0 rfl rfl) h0
  obtain ⟨wd, rfl, rfl, rfl, w1⟩ := open_int Try.underlying2 (hval 1 2 v1 rfl rfl) h1
  have h2k := h2
  obtain ⟨A2, ops, cap2, rfl, hE2, hwf2, hd2⟩ := open_triples Try.underlying22 Try.underlying39 oneRop cRop Try.underlying36 Try.underlying2 Try.underlying37 (hval 2 22 v2 rfl rfl) h2
  have h3k := h3
  obtain ⟨A3, ks, cap3, rfl, hE3, hwf3, hd3⟩ := open_nums Try.underlying23 Try.underlying3 c1_int (hval 3 23 v3 rfl rfl) h3
  clear hA0 hval0
  simp only [List.append_nil, List.nil_append] at hW'
  have hlt2 : ∀ x ∈ p2, x.block < W.heap.size := fun x hx => hW'.lt x (by simp [hx])
  have hr2 : ops.length * 24 ≤ 140737488351232 := by
    rcases hd2 with rfl | ⟨el, sp, rfl, hel⟩
    · simp
    · have := sized_slice hsz (j := 2) (t := 22) (e := 39) rfl rfl Try.underlying22
      rw [bRop] at this
      simp only [reachBytes] at this
      omega
  have hlt3 : ∀ x ∈ p3, x.block < W.heap.size := fun x hx => hW'.lt x (by simp [hx])
  have hr3 : ks.length * 8 ≤ 140737488351232 := by
    rcases hd3 with rfl | ⟨el, sp, rfl, hel⟩
    · simp
    · have := sized_slice hsz (j := 3) (t := 23) (e := 3) rfl rfl Try.underlying23
      rw [b8_int] at this
      simp only [reachBytes] at this
      omega
  have hwalk : Calls Try.prog 6 #[.int .i64 n, .int .i64 wd, .slice A2 ops.length cap2, .slice A3 ks.length cap3] W fun e w' => e = .returned (.bool true) ∧ Below W.heap.size W w' := by
    rcases (show (n < 1 ∨ 4096 < n ∨ wd < 1 ∨ 1152921504606846976 < wd) ∨ (1 ≤ n ∧ n ≤ 4096 ∧ 1 ≤ wd ∧ wd ≤ 1152921504606846976) by omega) with hn | hn
    · exact rbetween_no hn W
    · obtain ⟨m, rfl⟩ := Int.eq_ofNat_of_zero_le (show 0 ≤ n by omega)
      exact rbetween_yes (by omega) (by omega) hn.2.2.1 hn.2.2.2 W hE2 (fun op hop => ⟨(i64_bounds (hwf2 op hop).2.1).2, u64_bounds (hwf2 op hop).2.2⟩) hr2 hE3 hr3
  refine hwalk.mono fun e W' ⟨he, hb⟩ => ?_
  subst he
  exact ⟨_, rfl, _, _, _, [], _, [], hW', trodAll_mk1 (shut_bool Try.underlying4 true), trodAll_mk4 (shut_int Try.underlying3 w0) (shut_int Try.underlying2 w1) (Below.trod laid0 (by kernel_rfl) (of_decide_eq_true (by kernel_rfl)) h2k hb hlt2) (Below.trod laid0 (by kernel_rfl) (of_decide_eq_true (by kernel_rfl)) h3k hb hlt3), rfl, hb.frame _, fun h => by cases h⟩

theorem ringBetween_holds : Rows.RingBetweenSaid :=
  OpenClaim.holds_of_wide 6 Try.f6 rfl rfl rfl rfl rfl rfl rfl ⟨rfl, rfl, rfl, rfl, rfl⟩ rfl rfl rfl rfl rfl (by kernel_rfl) Try.func6 (by kernel_rfl)
    (of_decide_eq_true (by kernel_rfl)) (by unfold Func.isWrapper; first | (rw [if_pos (by decide +kernel)]; kernel_rfl) | (rw [if_neg (by decide +kernel)]; exact ⟨rfl, rfl⟩))
    (fun os started H enc _ => ringBetween_lifted os started H enc)
end Go.Proofs.Ytjehcgeodcpcaaa

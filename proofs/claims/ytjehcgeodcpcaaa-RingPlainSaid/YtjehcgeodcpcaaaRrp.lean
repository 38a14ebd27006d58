/- PROVED HERE: 'RingPlain', whatever the number of slots, their width and the operations: every Add, Sum and Each, one behind the other, answers as the document tells. No condition. -/
import Derived.Test.YtjehcgeodcpcaaaRr
import Derived.Test.YtjehcgeodcpcaaaLb
namespace Go.Proofs.Ytjehcgeodcpcaaa
open Go.ChangeShapes Go.WideShapes Go.ChangeAt Go.RowKit Go.Joins

set_option maxRecDepth 100000 in
theorem ringPlain_lifted (os : Os) (started : os.Started) (H : Type) (enc : TypeId × Value → H) :
    ReturnsInHanded {} Try.checked os 4 .any (Rows.ringPlainSpec.pre6 enc Try.prog Try.f4 Rows.ringPlainRow.domain false) (Rows.ringPlainSpec.post enc Try.prog Try.f4 false true false false) := by
  refine returnsInHanded_of_change_sized (C := Try.checked) own0 started (by kernel_rfl) Try.func4
    (ChangeSpec.witness6 (enc := enc) (C := Try.checked) false ⟨#[], #[.int .i64 0, .int .i64 0, .slice none 0 0], []⟩ 8 (by kernel_rfl) (by kernel_rfl) (by kernel_rfl) (by kernel_rfl)) ?_
  intro W base args ds gs before hval0 hW _ hsz0 _
  have hsz : (DataW.weightsEach Try.prog (Try.f4.params.toList ++ Rows.ringPlainSpec.plain.varTypes Try.prog) (ds ++ gs)).all (· ≤ reachBytes) = true := hsz0
  clear hsz0
  have hval : ∀ (j : Nat) t v, Try.f4.params[j]? = some t → args[j]? = some v → Value.okWide Try.prog W .any base t v := hval0
  have hW' := hW
  obtain ⟨p, q, hA0, hV, rfl, _, _⟩ := hW
  have hA : DataW.TrodAll enc Try.prog W 0 (fun _ => true) true Try.f4.params.toList args.toList ds p := hA0
  rw [Try.params4] at hA hval hsz
  obtain ⟨v0, v1, v2, d0, d1, d2, p0, p1, p2, rfl, rfl, rfl, h0, h1, h2⟩ := trodAll_three hA
  obtain ⟨rfl, rfl⟩ := trodVars_none hV
  obtain ⟨n, rfl, rfl, rfl, w0⟩ := open_int Try.underlying3 (hval 0 3 v0 rfl rfl) h0
  obtain ⟨wd, rfl, rfl, rfl, w1⟩ := open_int Try.underlying2 (hval 1 2 v1 rfl rfl) h1
  have h2k := h2
  obtain ⟨A2, ops, cap2, rfl, hE2, hwf2, hd2⟩ := open_triples Try.underlying22 Try.underlying39 oneRop cRop Try.underlying36 Try.underlying2 Try.underlying37 (hval 2 22 v2 rfl rfl) h2
  clear hA0 hval0
  simp only [List.append_nil, List.nil_append] at hW'
  have hlt2 : ∀ x ∈ p2, x.block < W.heap.size := fun x hx => hW'.lt x (by simp [hx])
  have hr2 : ops.length * 24 ≤ 140737488351232 := by
    rcases hd2 with rfl | ⟨el, sp, rfl, hel⟩
    · simp
    · have := sized_slice hsz (j := 2) (t := 22) (e := 39) rfl rfl Try.underlying22
      rw [bRop] at this
      simp only [reachBytes] at this
      omega
  have hwalk : Calls Try.prog 4 #[.int .i64 n, .int .i64 wd, .slice A2 ops.length cap2] W fun e w' => e = .returned (.bool true) ∧ Below W.heap.size W w' := by
    rcases (show (n < 1 ∨ 4096 < n ∨ wd < 1 ∨ 1152921504606846976 < wd) ∨ (1 ≤ n ∧ n ≤ 4096 ∧ 1 ≤ wd ∧ wd ≤ 1152921504606846976) by omega) with hn | hn
    · exact rplain_no hn W
    · obtain ⟨m, rfl⟩ := Int.eq_ofNat_of_zero_le (show 0 ≤ n by omega)
      exact rplain_yes (by omega) (by omega) hn.2.2.1 hn.2.2.2 W hE2 (fun op hop => ⟨(i64_bounds (hwf2 op hop).2.1).2, u64_bounds (hwf2 op hop).2.2⟩) hr2
  refine hwalk.mono fun e W' ⟨he, hb⟩ => ?_
  subst he
  exact ⟨_, rfl, _, _, _, [], _, [], hW', trodAll_mk1 (shut_bool Try.underlying4 true), trodAll_mk3 (shut_int Try.underlying3 w0) (shut_int Try.underlying2 w1) (Below.trod laid0 (by kernel_rfl) (of_decide_eq_true (by kernel_rfl)) h2k hb hlt2), rfl, hb.frame _, fun h => by cases h⟩

theorem ringPlain_holds : Rows.RingPlainSaid :=
  OpenClaim.holds_of_wide 4 Try.f4 rfl rfl rfl rfl rfl rfl rfl ⟨rfl, rfl, rfl, rfl, rfl⟩ rfl rfl rfl rfl rfl (by kernel_rfl) Try.func4 (by kernel_rfl)
    (of_decide_eq_true (by kernel_rfl)) (by unfold Func.isWrapper; first | (rw [if_pos (by decide +kernel)]; kernel_rfl) | (rw [if_neg (by decide +kernel)]; exact ⟨rfl, rfl⟩))
    (fun os started H enc _ => ringPlain_lifted os started H enc)
end Go.Proofs.Ytjehcgeodcpcaaa

/- PROVED HERE: 'TopTaken', whatever the limit, the batch, the number of workers and the schedule: what was given and what is left are the limit. The row, and its tied card: the package-level tables of units and of digits start as the program's text lays them. -/
import Derived.Test.YteoekkhgpdhnhaaDoorZr
import Derived.Test.YteoekkhgpdhnhaaDoorZd
import Derived.Test.YteoekkhgpdhnhaaDoorCards
import Derived.Test.YteoekkhgpdhnhaaDoorTie
namespace Go.Proofs.YteoekkhgpdhnhaaDoor
open Go.ChangeShapes Go.WideShapes Go.ChangeAt Go.RowKit Go.ChangeMaps Go.Joins
set_option maxRecDepth 100000 in
theorem topTaken_lifted (os : Os) (started : os.Started) (H : Type) (enc : TypeId × Value → H) :
    ReturnsInHanded {} Tryd.checked os 3 .any (fun w args => (Rows.topTakenSpec.pre enc Tryd.prog Tryd.f3 [] false w args ∧ laidMetH Tryd.prog laid4 w) ∧ sizedMet enc Tryd.prog Tryd.f3 (OpenSpec.ofChange Rows.topTakenSpec) false w args)
      (Rows.topTakenSpec.post enc Tryd.prog Tryd.f3 false true false false) := by
  refine returnsInHanded_of_change_and (C := Tryd.checked) (X := fun w _ => laidMetH Tryd.prog laid4 w) (fun _ _ _ hh h => h.of_heap hh) own0 started (by kernel_rfl) Tryd.func3
    (ChangeSpec.witness_shaped (enc := enc) (C := Tryd.checked) (os := os) (X := fun w _ => laidMetH Tryd.prog laid4 w) false (World.doorLaid Tryd.prog 400 os) #[.int .i64 0, .int .i64 0, .int .i64 0, .slice none 0 0] 8 rfl (World.shaped_of_RefB (by kernel_rfl) (by kernel_rfl)) (by kernel_rfl) (by kernel_rfl) (by kernel_rfl) (door_met os _)) ?_
  intro W base args ds gs before hval0 hW _ hsz0 hL _
  have hsz : (DataW.weightsEach Tryd.prog (Tryd.f3.params.toList ++ Rows.topTakenSpec.plain.varTypes Tryd.prog) (ds ++ gs)).all (· ≤ reachBytes) = true := hsz0
  clear hsz0
  have hval : ∀ (j : Nat) t v, Tryd.f3.params[j]? = some t → args[j]? = some v → Value.okWide Tryd.prog W .any base t v := hval0
  have hW' := hW
  obtain ⟨p, q, hA0, hV, rfl, hfz, hnd⟩ := hW
  have hA : DataW.TrodAll enc Tryd.prog W 0 (fun _ => true) true Tryd.f3.params.toList args.toList ds p := hA0
  rw [Tryd.params3] at hA hval hsz
  obtain ⟨v0, v1, v2, v3, d0, d1, d2, d3, p0, p1, p2, p3, rfl, rfl, rfl, h0, h1, h2, h3⟩ := trodAll_four hA
  obtain ⟨rfl, rfl⟩ := trodVars_none hV
  obtain ⟨limit, rfl, rfl, rfl, w0⟩ := open_int Tryd.underlying2 (hval 0 2 v0 rfl rfl) h0
  obtain ⟨ba, rfl, rfl, rfl, w1⟩ := open_int Tryd.underlying2 (hval 1 2 v1 rfl rfl) h1
  obtain ⟨n, rfl, rfl, rfl, w2⟩ := open_int Tryd.underlying3 (hval 2 3 v2 rfl rfl) h2
  have h3k := h3
  obtain ⟨A3, xs, cap3, rfl, hE3, hwf3, hd3⟩ := open_nums Tryd.underlying22 Tryd.underlying3 c1_int (hval 3 22 v3 rfl rfl) h3
  clear hA0 hval0
  simp only [List.append_nil, List.nil_append] at hW'
  have hlt3 : ∀ x ∈ p3, x.block < W.heap.size := fun x hx => hW'.lt x (by simp [hx])
  have hr3 : xs.length * 8 ≤ 140737488351232 := by
    rcases hd3 with rfl | ⟨el, sp, rfl, hel⟩
    · simp
    · have := sized_slice hsz (j := 3) (t := 22) (e := 3) rfl rfl Tryd.underlying22
      rw [b8_int] at this
      simp only [reachBytes] at this
      omega
  have hwalk : Calls Tryd.prog 3 #[.int .i64 limit, .int .i64 ba, .int .i64 n, .slice A3 xs.length cap3] W fun e w' => e = .returned (.bool true) ∧ Below W.heap.size W w' := by
    have hU := units_of_laid hL
    by_cases hf : FitsB limit ba n
    · obtain ⟨m, rfl⟩ : ∃ m : Nat, n = (m : Int) := ⟨n.toNat, by obtain ⟨_, _, _, _, h5, _⟩ := hf; omega⟩
      exact taken_yes hf W hU hE3 hr3
    · exact taken_no hf W hU
  refine hwalk.mono fun e W' ⟨he, hb⟩ => ?_
  subst he
  exact ⟨_, rfl, _, _, _, [], _, [], hW', trodAll_mk1 (shut_bool Tryd.underlying4 true), trodAll_mk4 (shut_int Tryd.underlying2 w0) (shut_int Tryd.underlying2 w1) (shut_int Tryd.underlying3 w2) (Below.trod laid0 (by kernel_rfl) (of_decide_eq_true (by kernel_rfl)) h3k hb hlt3), rfl, hb.frame _, fun h => by cases h⟩
theorem topTaken_row : Rows.TopTakenSaid :=
  OpenClaim.holds_of_wide 3 Tryd.f3 rfl rfl rfl rfl rfl rfl rfl ⟨rfl, rfl, rfl, rfl, rfl⟩ rfl rfl rfl rfl rfl (by kernel_rfl) Tryd.func3 (by kernel_rfl)
    (of_decide_eq_true (by kernel_rfl)) (by unfold Func.isWrapper; first | (rw [if_pos (by decide +kernel)]; kernel_rfl) | (rw [if_neg (by decide +kernel)]; exact ⟨rfl, rfl⟩))
    (fun os started H enc _ => topTaken_lifted os started H enc)
theorem topTaken_card : Rows.TopTakenCardSaid :=
  Claim7.holds_tied_plain_at .later [] [.data, .data, .data, .data] true (true, "71d073bb8e1b92bf014aa46b2d45a6e3e89fcbf92b7f3abef32db52b83ed9c39") false
    topTaken_row (fun _ h => by cases h) (by kernel_rfl) (fun _ h => by cases h) topTaken_row_tie rfl ⟨rfl, rfl⟩ (by kernel_rfl) rfl
    (fun f fn hf hfn => by
      obtain rfl : f = 3 := Option.some.inj ((show Tryd.prog.funcNamed "abacus/abacustop.TopTaken" = some 3 by kernel_rfl).symm.trans hf) |>.symm
      obtain rfl : fn = Tryd.f3 := (Option.some.inj (Tryd.func3.symm.trans hfn)).symm
      exact ⟨by kernel_rfl, fun j t ht => by
        rw [Tryd.params3] at ht
        have hm : t ∈ [2, 2, 3, 22] := by simpa using Array.mem_of_getElem? ht
        have hall : ([2, 2, 3, 22].all fun u => !Tryd.prog.wantsStandIn u) = true := by kernel_rfl
        exact (show Tryd.prog.wantsStandIn t = false by simpa using List.all_eq_true.1 hall t hm)⟩)
    (by kernel_rfl)
end Go.Proofs.YteoekkhgpdhnhaaDoor

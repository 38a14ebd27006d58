/- PROVED HERE: 'HistShots': every Check and every Merge of snapshots, whatever the scale and the snapshots; what is handed in stays. No condition. -/
import Derived.Test.YtgmknhogogobjaaRi
import Derived.Test.YtgmknhogogobjaaJe
namespace Go.Proofs.Ytgmknhogogobjaa
open Go.ChangeShapes Go.WideShapes Go.ChangeAt Go.RowKit Go.Deep Go.Joins

set_option maxRecDepth 100000
theorem oneSh : oneCellFields Try.prog #[⟨"Count", 38, 0, false, "", "", 0⟩, ⟨"Sum", 38, 1, false, "", "", 8⟩, ⟨"Least", 2, 2, false, "", "", 16⟩, ⟨"Greatest", 2, 3, false, "", "", 24⟩, ⟨"Buckets", 42, 4, false, "", "", 32⟩] = true := by kernel_rfl
theorem cSh : Try.prog.cellsOf 44 = 5 := by kernel_rfl
/-- a slice of numbers in a struct that came in -/
theorem open_cells {H : Type} {enc : TypeId × Value → H} {w : World} {t e : TypeId} {k : IntKind} {fuel : Nat} {cs : List Value} {x : DataW H × List MemPlace} (ht : Try.prog.underlying t = some (.slice e)) (he : Try.prog.underlying e = some (.int k)) (hc : Try.prog.cellsOf e = 1)
    (hf : DataW.trod enc Try.prog w 0 (fun _ => true) true fuel t cs = some x) :
    ∃ (A : Option Addr) (xs : List Int) (cap : Nat), cs = [.slice A xs.length cap] ∧ Ext k w A xs ∧ (∀ x ∈ xs, (Lit.int k x).wf = true) ∧ (xs = [] ∨ ∃ el sp, x.1 = .slice el sp ∧ el.length = xs.length) := by
  rcases open_ints ht he hc hf with ⟨hcs, hx⟩ | ⟨a, len', cap', zs, hcs, _, hl, hm, hz, hx, hcell, hwz⟩
  · exact ⟨none, [], 0, hcs, fun j x hx => by simp at hx, fun x hx => by simp at hx, .inl rfl⟩
  · simp only [if_true] at hz
    have hlen : (zs.take len').length = len' := by rw [List.length_take]; omega
    refine ⟨some a, zs.take len', cap', by rw [hlen]; exact hcs, fun j x hx' => ?_, fun x hx' => hwz x (List.mem_of_mem_take hx'), .inr ⟨_, _, by rw [hx], by simp [lits]⟩⟩
    have hj : j < len' := by have := (List.getElem?_eq_some_iff.1 hx').1; omega
    have h0 := hcell 0 (by omega)
    have hb := World.block_lt_of_cell? _ _ h0
    have hjc := hcell j (by omega)
    rw [List.getElem?_take_of_lt hj] at hx'
    have hv' : zs.getD j 0 = x := by simp [List.getD, hx']
    rw [hv'] at hjc
    obtain ⟨b, o, s⟩ := a
    cases s with
    | none => exact ⟨b, o, rfl, by simpa [Addr.add] using hb, by rw [Addr.add_lit] at hjc; exact hjc⟩
    | some s => simp [Addr.add, World.cell?] at h0; split at h0 <;> simp at h0
theorem open_shot {H : Type} {enc : TypeId × Value → H} {w : World} {b0 : Nat} {v : Value} {d : DataW H} {ps : List MemPlace} (hv : Value.okWide Try.prog w .any b0 44 v) (h : DataW.Trod enc Try.prog w 0 (fun _ => true) true 44 v d ps) :
    ∃ (f : ShotH) (A : Option Addr) (cap : Nat), v = .agg #[.int .u64 f.c, .int .u64 f.su, .int .i64 f.le, .int .i64 f.gr, .slice A f.bu.length cap] ∧ Ext .u64 w A f.bu ∧ (∀ x ∈ f.bu, (Lit.int .u64 x).wf = true) ∧ (f.bu = [] ∨ ∃ d0 d1 d2 d3 el sp, d = .agg [d0, d1, d2, d3, .slice el sp] ∧ el.length = f.bu.length) := by
  obtain ⟨cs, rfl, hsz⟩ := okWide_struct Try.underlying44 hv
  obtain ⟨fuel, hf⟩ := h
  obtain ⟨ys, n', _, hx, hlen, hyl, hfl⟩ := DataW.trod_struct Try.underlying44 hf
  have hyl5 : ys.length = 5 := hyl
  clear hyl
  obtain ⟨y0, y1, y2, y3, y4, rfl⟩ : ∃ y0 y1 y2 y3 y4, ys = [y0, y1, y2, y3, y4] := by
    match ys, hyl5 with
    | [y0, y1, y2, y3, y4], _ => exact ⟨y0, y1, y2, y3, y4, rfl⟩
  rw [cSh] at hsz
  obtain ⟨o0, k0⟩ := hone_of oneSh 0 _ rfl
  obtain ⟨o1, k1⟩ := hone_of oneSh 1 _ rfl
  obtain ⟨o2, k2⟩ := hone_of oneSh 2 _ rfl
  obtain ⟨o3, k3⟩ := hone_of oneSh 3 _ rfl
  obtain ⟨o4, k4⟩ := hone_of oneSh 4 _ rfl
  obtain ⟨l⟩ := cs
  have hl5 : l.length = 5 := hsz
  match l, hl5 with
  | [c0, c1, c2, c3, c4], _ =>
    have f0 := hfl 0 _ rfl
    have f1 := hfl 1 _ rfl
    have f2 := hfl 2 _ rfl
    have f3 := hfl 3 _ rfl
    have f4 := hfl 4 _ rfl
    simp only [o0, o1, o2, o3, o4, k0, k1, k2, k3, k4, Value.cells, List.drop_succ_cons, List.drop_zero, List.take_succ_cons, List.take_zero] at f0 f1 f2 f3 f4
    obtain ⟨x0, rfl, w0⟩ := one_of Try.underlying38 rfl (show 0 < [y0, y1, y2, y3, y4].length by simp) f0
    obtain ⟨x1, rfl, w1⟩ := one_of Try.underlying38 rfl (show 1 < [y0, y1, y2, y3, y4].length by simp) f1
    obtain ⟨x2, rfl, w2⟩ := one_of Try.underlying2 rfl (show 2 < [y0, y1, y2, y3, y4].length by simp) f2
    obtain ⟨x3, rfl, w3⟩ := one_of Try.underlying2 rfl (show 3 < [y0, y1, y2, y3, y4].length by simp) f3
    change _ = some y4 at f4
    obtain ⟨A, xs, cap, e4, hE, hwf, hd⟩ := open_cells Try.underlying42 Try.underlying38 c1_u64 f4
    obtain rfl := (List.cons.inj e4).1
    refine ⟨⟨x0, x1, x2, x3, xs⟩, A, cap, rfl, hE, hwf, ?_⟩
    rcases hd with hd | ⟨el, sp, he, hel⟩
    · exact .inl hd
    · obtain rfl := (Prod.mk.inj hx).1
      exact .inr ⟨_, _, _, _, el, sp, by simp only [List.map_cons, List.map_nil]; rw [he], hel⟩
theorem shot_size {H : Type} {ts : List TypeId} {ds : List (DataW H)} {j : Nat} {f : ShotH} {d : DataW H} (hsz : (DataW.weightsEach Try.prog ts ds).all (· ≤ reachBytes) = true) (ht : ts[j]? = some 44) (hj : ds[j]? = some d) (hd : f.bu = [] ∨ ∃ d0 d1 d2 d3 el sp, d = .agg [d0, d1, d2, d3, .slice el sp] ∧ el.length = f.bu.length) : f.bu.length ≤ 17592186044416 := by
  rcases hd with hd | ⟨d0, d1, d2, d3, el, sp, rfl, hel⟩
  · simp [hd]
  · have h1 := List.all_eq_true.1 hsz _ (DataW.weights_mem_each ht hj ((el.length + sp.length) * Try.prog.bytesOf 38) (by
      simp only [DataW.weights, Try.underlying44]
      exact DataW.weights_mem_each (j := 4) (t := 42) rfl rfl _ (by simp [DataW.weights, Try.underlying42])))
    rw [b8_u64] at h1
    have h2 : (el.length + sp.length) * 8 ≤ reachBytes := by simpa using h1
    simp only [reachBytes] at h2
    omega
theorem nonneg {f : ShotH} (h : ∀ x ∈ f.bu, (Lit.int .u64 x).wf = true) : ∀ (j : Nat) (x : Int), f.bu[j]? = some x → 0 ≤ x := fun _j x hx => (u64_bounds (h x (List.mem_of_getElem? hx))).1
theorem shots_any {l h d : Int} {f1 f2 : ShotH} {A B : Option Addr} {c c' : Nat} (W : World) (hA : Ext .u64 W A f1.bu) (hB : Ext .u64 W B f2.bu) (hl1 : f1.bu.length ≤ 17592186044416) (hl2 : f2.bu.length ≤ 17592186044416) (h01 : ∀ (j : Nat) (x : Int), f1.bu[j]? = some x → 0 ≤ x) (h02 : ∀ (j : Nat) (x : Int), f2.bu[j]? = some x → 0 ≤ x) :
    Calls Try.prog 4 #[.agg #[.int .i64 l, .int .i64 h, .int .i64 d], .agg #[.int .u64 f1.c, .int .u64 f1.su, .int .i64 f1.le, .int .i64 f1.gr, .slice A f1.bu.length c], .agg #[.int .u64 f2.c, .int .u64 f2.su, .int .i64 f2.le, .int .i64 f2.gr, .slice B f2.bu.length c']] W fun e w' => e = .returned (.bool true) ∧ Below W.heap.size W w' := by
  by_cases k1 : checkS l h d f1 = 0
  · by_cases k2 : checkS l h d f2 = 0
    · exact shots_walk hA hB hl1 hl2 (by show (addU f1.bu f2.bu).length ≤ _; rw [add_len k1 k2]; exact hl1) h01 (merge_to hl1 hl2 k1 k2) (ref_to hl1 h01 h02 k1 k2)
    · exact shots_walk hA hB hl1 hl2 (by simp) h01 (merge_not hl1 hl2 k2 (.inr ⟨k1, rfl⟩)) (ref_not hl1 hl2 h01 h02 k2 (.inr ⟨k1, rfl⟩))
  · exact shots_walk hA hB hl1 hl2 (by simp) h01 (merge_not hl1 hl2 k1 (.inl rfl)) (ref_not hl1 hl2 h01 h02 k1 (.inl rfl))
theorem histShots_lifted (os : Os) (started : os.Started) (H : Type) (enc : TypeId × Value → H) :
    ReturnsInHanded {} Try.checked os 4 .any (Rows.histShotsSpec.pre6 enc Try.prog Try.f4 Rows.histShotsRow.domain false) (Rows.histShotsSpec.post enc Try.prog Try.f4 false true false false) := by
  refine returnsInHanded_of_change_sized (C := Try.checked) own0 started (by kernel_rfl) Try.func4
    (ChangeSpec.witness6 (enc := enc) (C := Try.checked) false ⟨#[], #[.agg #[.int .i64 0, .int .i64 0, .int .i64 0], .agg #[.int .u64 0, .int .u64 0, .int .i64 0, .int .i64 0, .slice none 0 0], .agg #[.int .u64 0, .int .u64 0, .int .i64 0, .int .i64 0, .slice none 0 0]], []⟩ 8 (by kernel_rfl) (by kernel_rfl) (by kernel_rfl) (by kernel_rfl)) ?_
  intro W base args ds gs before hval0 hW _ hsz0 _
  have hsz : (DataW.weightsEach Try.prog (Try.f4.params.toList ++ Rows.histShotsSpec.plain.varTypes Try.prog) (ds ++ gs)).all (· ≤ reachBytes) = true := hsz0
  clear hsz0
  have hval : ∀ (j : Nat) t v, Try.f4.params[j]? = some t → args[j]? = some v → Value.okWide Try.prog W .any base t v := hval0
  have hW' := hW
  obtain ⟨p, q, hA0, hV, rfl, _, _⟩ := hW
  have hA : DataW.TrodAll enc Try.prog W 0 (fun _ => true) true Try.f4.params.toList args.toList ds p := hA0
  rw [Try.params4] at hA hval hsz
  obtain ⟨v0, v1, v2, d0, d1, d2, p0, p1, p2, rfl, rfl, rfl, h0, h1, h2⟩ := trodAll_three hA
  obtain ⟨rfl, rfl⟩ := trodVars_none hV
  obtain ⟨l, h, d, rfl, rfl, rfl, w0, w1, w2⟩ := open_sc (hval 0 23 v0 rfl rfl) h0
  have h1k := h1
  have h2k := h2
  obtain ⟨f1, A1, cap1, rfl, hE1, hwf1, hd1⟩ := open_shot (hval 1 44 v1 rfl rfl) h1
  obtain ⟨f2, A2, cap2, rfl, hE2, hwf2, hd2⟩ := open_shot (hval 2 44 v2 rfl rfl) h2
  clear hA0 hval0
  simp only [List.append_nil, List.nil_append] at hW'
  have hlt1 : ∀ x ∈ p1, x.block < W.heap.size := fun x hx => hW'.lt x (by simp [hx])
  have hlt2 : ∀ x ∈ p2, x.block < W.heap.size := fun x hx => hW'.lt x (by simp [hx])
  have hl1 := shot_size hsz (j := 1) rfl rfl hd1
  have hl2 := shot_size hsz (j := 2) rfl rfl hd2
  refine (shots_any (c := cap1) (c' := cap2) W hE1 hE2 hl1 hl2 (nonneg hwf1) (nonneg hwf2)).mono fun e W' ⟨he, hb⟩ => ?_
  subst he
  have t1 := Below.trod laid0 (by kernel_rfl) (of_decide_eq_true (by kernel_rfl)) h1k hb hlt1
  have t2 := Below.trod laid0 (by kernel_rfl) (of_decide_eq_true (by kernel_rfl)) h2k hb hlt2
  exact ⟨_, rfl, _, _, _, [], _, [], hW', trodAll_mk1 (shut_bool Try.underlying4 true), trodAll_mk3 (shut_sc w0 w1 w2) t1 t2, rfl, hb.frame _, fun h => by cases h⟩

theorem histShots_holds : Rows.HistShotsSaid :=
  OpenClaim.holds_of_wide 4 Try.f4 rfl rfl rfl rfl rfl rfl rfl ⟨rfl, rfl, rfl, rfl, rfl⟩ rfl rfl rfl rfl rfl (by kernel_rfl) Try.func4 (by kernel_rfl)
    (of_decide_eq_true (by kernel_rfl)) (by unfold Func.isWrapper; first | (rw [if_pos (by decide +kernel)]; kernel_rfl) | (rw [if_neg (by decide +kernel)]; exact ⟨rfl, rfl⟩))
    (fun os started H enc _ => histShots_lifted os started H enc)
end Go.Proofs.Ytgmknhogogobjaa

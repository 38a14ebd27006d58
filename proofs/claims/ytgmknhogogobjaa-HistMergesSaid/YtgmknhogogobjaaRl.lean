/- PROVED HERE: 'HistMerges': what is merged is the snapshot of one histogram to which all was recorded, from either side, and an empty one changes nothing: whatever the scale and the operations. No condition. -/
import Derived.Test.YtgmknhogogobjaaRh
import Derived.Test.YtgmknhogogobjaaEy
import Derived.Deep.Slices
import Derived.Deep.Fields
import Derived.Test.YtgmknhogogobjaaJi
namespace Go.Proofs.Ytgmknhogogobjaa
open Go.ChangeShapes Go.WideShapes Go.ChangeAt Go.RowKit Go.Deep Go.Joins

set_option maxRecDepth 100000
theorem bOp : Try.prog.bytesOf 40 = 24 := by kernel_rfl
section
variable {H : Type} {enc : TypeId × Value → H} {w : World} {base : Nat} {sp : Nat → Bool} {held : Bool}
/-- one field of a struct whose cells are c0, c1, c2 -/
theorem one_of {t : TypeId} {q : IntKind} {n : Nat} {c : Value} {y : Option (DataW H × List MemPlace)} {l : List (DataW H × List MemPlace)} {i : Nat} (hu : Try.prog.underlying t = some (.int q)) (hy : y = l[i]?) (hi : i < l.length) (h : DataW.trod enc Try.prog w base sp held n t [c] = y) : ∃ x : Int, c = .int q x ∧ (Lit.int q x).wf = true := by
  rw [hy, List.getElem?_eq_getElem hi] at h
  obtain ⟨x, e0, _, w0⟩ := DataW.trod_int hu h
  exact ⟨x, (List.cons.inj e0).1, w0⟩
end
/-- a slice of structs of three numbers that came in -/
theorem open_triples {H : Type} {enc : TypeId × Value → H} {w : World} {t e : TypeId} {f0 f1 f2 : Field} {q0 q1 q2 : IntKind} {b0 : Nat} {v : Value} {d : DataW H} {ps : List MemPlace} (ht : Try.prog.underlying t = some (.slice e)) (he : Try.prog.underlying e = some (.struct #[f0, f1, f2]))
    (hone : oneCellFields Try.prog #[f0, f1, f2] = true) (hC : Try.prog.cellsOf e = 3) (u0 : Try.prog.underlying f0.type = some (.int q0)) (u1 : Try.prog.underlying f1.type = some (.int q1)) (u2 : Try.prog.underlying f2.type = some (.int q2))
    (hv : Value.okWide Try.prog w .any b0 t v) (h : DataW.Trod enc Try.prog w 0 (fun _ => true) true t v d ps) :
    ∃ (A : Option Addr) (ops : List (Int × Int × Int)) (cap : Nat), v = .slice A ops.length cap ∧ Ext3 q0 q1 q2 w A ops ∧ (∀ op ∈ ops, (Lit.int q0 op.1).wf = true ∧ (Lit.int q1 op.2.1).wf = true ∧ (Lit.int q2 op.2.2).wf = true) ∧ (ops = [] ∨ ∃ el sp, d = .slice el sp ∧ el.length = ops.length) := by
  obtain ⟨A, len, cap, rfl⟩ := okWide_slice ht hv
  obtain ⟨fuel, hf⟩ := h
  rcases open_slice ht hf with ⟨hcs, hx⟩ | ⟨a, len', cap', m, n, D, Pl, hcs, _, hl, _, hmm, hx, hi⟩
  · simp [Value.cells] at hcs
    obtain ⟨rfl, rfl, rfl⟩ := hcs
    exact ⟨none, [], 0, rfl, fun j x hx => by simp at hx, fun x hx => by simp at hx, .inl rfl⟩
  · simp [Value.cells] at hcs
    obtain ⟨rfl, rfl, rfl⟩ := hcs
    simp only [if_true] at hmm
    simp only [Prod.mk.injEq] at hx
    have key : ∀ i, ∃ x : Int × Int × Int, i < len → (w.cell? (a.add (i * 3)) = some (.int q0 x.1) ∧ w.cell? ((a.add (i * 3)).add 1) = some (.int q1 x.2.1) ∧ w.cell? ((a.add (i * 3)).add 2) = some (.int q2 x.2.2)) ∧ (Lit.int q0 x.1).wf = true ∧ (Lit.int q1 x.2.1).wf = true ∧ (Lit.int q2 x.2.2).wf = true := fun i => by
      by_cases hlt : i < len
      · obtain ⟨cs', hc, ht'⟩ := hi i (by omega)
        rw [hC] at hc
        obtain ⟨ys, n', _, _, hlen, hyl, hfl⟩ := DataW.trod_struct he ht'
        obtain ⟨_, hcl, hat⟩ := World.cells?_some hc
        obtain ⟨o0, k0⟩ := hone_of hone 0 f0 rfl
        obtain ⟨o1, k1⟩ := hone_of hone 1 f1 rfl
        obtain ⟨o2, k2⟩ := hone_of hone 2 f2 rfl
        have hyl3 : ys.length = 3 := hyl
        match cs', hcl with
        | [c0, c1, c2], _ =>
          obtain ⟨x0, rfl, w0⟩ := one_of u0 rfl (show 0 < ys.length by omega) (by simpa [o0, k0] using hfl 0 f0 rfl)
          obtain ⟨x1, rfl, w1⟩ := one_of u1 rfl (show 1 < ys.length by omega) (by simpa [o1, k1] using hfl 1 f1 rfl)
          obtain ⟨x2, rfl, w2⟩ := one_of u2 rfl (show 2 < ys.length by omega) (by simpa [o2, k2] using hfl 2 f2 rfl)
          refine ⟨(x0, x1, x2), fun _ => ⟨⟨?_, hat 1 (by omega), hat 2 (by omega)⟩, w0, w1, w2⟩⟩
          have h00 := hat 0 (by omega)
          have e0 : ∀ b : Addr, b.add 0 = b := fun b => by simp [Addr.add]
          rwa [e0] at h00
      · exact ⟨(0, 0, 0), fun h => absurd h hlt⟩
    obtain ⟨g, hg⟩ := Classical.axiomOfChoice key
    have hlen : ((List.range len).map g).length = len := by simp
    refine ⟨some a, (List.range len).map g, cap, by rw [hlen], fun j x hx' => ?_, fun x hx' => ?_, .inr ⟨_, _, hx.1, by simp⟩⟩
    · have hj : j < len := by have := (List.getElem?_eq_some_iff.1 hx').1; omega
      simp [hj] at hx'
      subst hx'
      obtain ⟨⟨h0, h1, h2⟩, _⟩ := hg j hj
      obtain ⟨b, o, s⟩ := a
      cases s with
      | none =>
        rw [Addr.add_lit] at h0 h1 h2
        rw [Addr.add_lit] at h1 h2
        exact ⟨b, o, rfl, World.block_lt_of_cell? _ _ h0, h0, h1, h2⟩
      | some s =>
        obtain ⟨⟨h0, _⟩, _⟩ := hg 0 (by omega)
        simp [Addr.add, World.cell?] at h0
        split at h0 <;> simp at h0
    · simp at hx'
      obtain ⟨j, hj, rfl⟩ := hx'
      exact (hg j hj).2
theorem oneSc : oneCellFields Try.prog #[⟨"Lowest", 2, 0, false, "", "", 0⟩, ⟨"Highest", 2, 1, false, "", "", 8⟩, ⟨"Digits", 3, 2, false, "", "", 16⟩] = true := by kernel_rfl
theorem cSc : Try.prog.cellsOf 23 = 3 := by kernel_rfl

section
variable {H : Type} {enc : TypeId × Value → H} {w : World} {base : Nat} {sp : Nat → Bool} {held : Bool}
theorem open_sc {r : Reach} {b0 : Nat} {v : Value} {d : DataW H} {ps : List MemPlace} (hv : Value.okWide Try.prog w r b0 23 v) (h : DataW.Trod enc Try.prog w base sp held 23 v d ps) :
    ∃ k i y : Int, v = .agg #[.int .i64 k, .int .i64 i, .int .i64 y] ∧ d = .agg [.lit (.int .i64 k), .lit (.int .i64 i), .lit (.int .i64 y)] ∧ ps = [] ∧ (Lit.int .i64 k).wf = true ∧ (Lit.int .i64 i).wf = true ∧ (Lit.int .i64 y).wf = true := by
  obtain ⟨v0, v1, v2, y0, y1, y2, m, rfl, rfl, rfl, h0, h1, h2⟩ := open_agg3 Try.underlying23 oneSc cSc hv h
  obtain ⟨k, e0, rfl, w0⟩ := DataW.trod_int Try.underlying2 h0
  obtain ⟨i, e1, rfl, w1⟩ := DataW.trod_int Try.underlying2 h1
  obtain ⟨y, e2, rfl, w2⟩ := DataW.trod_int Try.underlying3 h2
  obtain rfl := (List.cons.inj e0).1
  obtain rfl := (List.cons.inj e1).1
  obtain rfl := (List.cons.inj e2).1
  exact ⟨k, i, y, rfl, rfl, rfl, w0, w1, w2⟩
theorem shut_sc {k i y : Int} (hk : (Lit.int .i64 k).wf = true) (hi : (Lit.int .i64 i).wf = true) (hy : (Lit.int .i64 y).wf = true) :
    DataW.Trod enc Try.prog w base sp held 23 (.agg #[.int .i64 k, .int .i64 i, .int .i64 y]) (.agg [.lit (.int .i64 k), .lit (.int .i64 i), .lit (.int .i64 y)]) [] :=
  shut_agg3 (y0 := (.lit (.int .i64 k), [])) (y1 := (.lit (.int .i64 i), [])) (y2 := (.lit (.int .i64 y), [])) Try.underlying23 oneSc cSc (shut_k Try.underlying2 hk) (shut_k Try.underlying2 hi) (shut_k Try.underlying3 hy)
end
theorem ops_low {ops : List (Int × Int × Int)} (h : ∀ op ∈ ops, (Lit.int .u8 op.1).wf = true ∧ (Lit.int .i64 op.2.1).wf = true ∧ (Lit.int .u64 op.2.2).wf = true) : ∀ (j : Nat) (op : Int × Int × Int), ops[j]? = some op → 0 ≤ op.2.2 := fun _ op hx => (u64_bounds (h op (List.mem_of_getElem? hx)).2.2).1
theorem merges_any {l h d : Int} {ca cb : Nat} {A B : Option Addr} {opa opb : List (Int × Int × Int)} (W : World) (hEa : Ext3 .u8 .i64 .u64 W A opa) (hEb : Ext3 .u8 .i64 .u64 W B opb) (hra : opa.length * 24 ≤ 140737488355328) (hrb : opb.length * 24 ≤ 140737488355328) (h0a : ∀ (j : Nat) (op : Int × Int × Int), opa[j]? = some op → 0 ≤ op.2.2) (h0b : ∀ (j : Nat) (op : Int × Int × Int), opb[j]? = some op → 0 ≤ op.2.2) :
    Calls Try.prog 8 #[.agg #[.int .i64 l, .int .i64 h, .int .i64 d], .slice A opa.length ca, .slice B opb.length cb] W fun e w' => e = .returned (.bool true) ∧ Below W.heap.size W w' := by
  cases r : Sc.rightB l h d with
  | false => exact merges_no r W
  | true =>
    cases la : littleF opa with
    | false => exact merges_big1 r rfl W hEa hEb hra hrb h0a h0b la
    | true =>
      cases lb : littleF opb with
      | false => exact merges_big2 r rfl W hEa hEb hra hrb h0a h0b la lb
      | true => exact merges_yes r rfl W hEa hEb hra hrb h0a h0b la lb
theorem histMerges_lifted (os : Os) (started : os.Started) (H : Type) (enc : TypeId × Value → H) :
    ReturnsInHanded {} Try.checked os 8 .any (Rows.histMergesSpec.pre6 enc Try.prog Try.f8 Rows.histMergesRow.domain false) (Rows.histMergesSpec.post enc Try.prog Try.f8 false true false false) := by
  refine returnsInHanded_of_change_sized (C := Try.checked) own0 started (by kernel_rfl) Try.func8
    (ChangeSpec.witness6 (enc := enc) (C := Try.checked) false ⟨#[], #[.agg #[.int .i64 0, .int .i64 0, .int .i64 0], .slice none 0 0, .slice none 0 0], []⟩ 8 (by kernel_rfl) (by kernel_rfl) (by kernel_rfl) (by kernel_rfl)) ?_
  intro W base args ds gs before hval0 hW _ hsz0 _
  have hsz : (DataW.weightsEach Try.prog (Try.f8.params.toList ++ Rows.histMergesSpec.plain.varTypes Try.prog) (ds ++ gs)).all (· ≤ reachBytes) = true := hsz0
  clear hsz0
  have hval : ∀ (j : Nat) t v, Try.f8.params[j]? = some t → args[j]? = some v → Value.okWide Try.prog W .any base t v := hval0
  have hW' := hW
  obtain ⟨p, q, hA0, hV, rfl, _, _⟩ := hW
  have hA : DataW.TrodAll enc Try.prog W 0 (fun _ => true) true Try.f8.params.toList args.toList ds p := hA0
  rw [Try.params8] at hA hval hsz
  obtain ⟨v0, v1, v2, d0, d1, d2, p0, p1, p2, rfl, rfl, rfl, h0, h1, h2⟩ := trodAll_three hA
  obtain ⟨rfl, rfl⟩ := trodVars_none hV
  obtain ⟨l, h, d, rfl, rfl, rfl, w0, w1, w2⟩ := open_sc (hval 0 23 v0 rfl rfl) h0
  have h1k := h1
  have h2k := h2
  obtain ⟨A1, opa, cap1, rfl, hE1, hwf1, hd1⟩ := open_triples Try.underlying24 Try.underlying40 oneOp cOp Try.underlying37 Try.underlying2 Try.underlying38 (hval 1 24 v1 rfl rfl) h1
  obtain ⟨A2, opb, cap2, rfl, hE2, hwf2, hd2⟩ := open_triples Try.underlying24 Try.underlying40 oneOp cOp Try.underlying37 Try.underlying2 Try.underlying38 (hval 2 24 v2 rfl rfl) h2
  clear hA0 hval0
  simp only [List.append_nil, List.nil_append] at hW'
  have hlt1 : ∀ x ∈ p1, x.block < W.heap.size := fun x hx => hW'.lt x (by simp [hx])
  have hlt2 : ∀ x ∈ p2, x.block < W.heap.size := fun x hx => hW'.lt x (by simp [hx])
  have hr1 : opa.length * 24 ≤ 140737488355328 := by
    rcases hd1 with rfl | ⟨el, sp, rfl, hel⟩
    · simp
    · have := sized_slice hsz (j := 1) (t := 24) (e := 40) rfl rfl Try.underlying24
      rw [bOp] at this
      simp only [reachBytes] at this
      omega
  have hr2 : opb.length * 24 ≤ 140737488355328 := by
    rcases hd2 with rfl | ⟨el, sp, rfl, hel⟩
    · simp
    · have := sized_slice hsz (j := 2) (t := 24) (e := 40) rfl rfl Try.underlying24
      rw [bOp] at this
      simp only [reachBytes] at this
      omega
  refine (merges_any (ca := cap1) (cb := cap2) W hE1 hE2 hr1 hr2 (ops_low hwf1) (ops_low hwf2)).mono fun e W' ⟨he, hb⟩ => ?_
  subst he
  have t1 := Below.trod laid0 (by kernel_rfl) (of_decide_eq_true (by kernel_rfl)) h1k hb hlt1
  have t2 := Below.trod laid0 (by kernel_rfl) (of_decide_eq_true (by kernel_rfl)) h2k hb hlt2
  exact ⟨_, rfl, _, _, _, [], _, [], hW', trodAll_mk1 (shut_bool Try.underlying4 true), trodAll_mk3 (shut_sc w0 w1 w2) t1 t2, rfl, hb.frame _, fun h => by cases h⟩

theorem histMerges_holds : Rows.HistMergesSaid :=
  OpenClaim.holds_of_wide 8 Try.f8 rfl rfl rfl rfl rfl rfl rfl ⟨rfl, rfl, rfl, rfl, rfl⟩ rfl rfl rfl rfl rfl (by kernel_rfl) Try.func8 (by kernel_rfl)
    (of_decide_eq_true (by kernel_rfl)) (by unfold Func.isWrapper; first | (rw [if_pos (by decide +kernel)]; kernel_rfl) | (rw [if_neg (by decide +kernel)]; exact ⟨rfl, rfl⟩))
    (fun os started H enc _ => histMerges_lifted os started H enc)
end Go.Proofs.Ytgmknhogogobjaa

/- THE WALKS of package sem: an enter's two steps. -/
import Derived.Test.YtamigipljgijlaaMb
import Derived.Deep.Cut
import Derived.Deep.CutRange
import Derived.Deep.DeepCutAuto
import Derived.Deep.RegionHeld3
namespace Go.Proofs.Ytamigipljgijlaa
open Go Go.RowKit
set_option maxRecDepth 100000
/-- a semaphore: its places, what was drawn, what was given back -/
structure SemM (w : World) (bs bk bw : Nat) (pl d g : Int) : Prop where
  head : Row w bs 66 [.pointer (some ⟨bk, 0, none⟩), .int .u64 pl]
  words : Words w bk bw [d, g]
theorem SemM.part {w w1 : World} {bs bk bw bp : Nat} {pl d g : Int} {l : List Value} (h : SemM w bs bk bw pl d g) (hp : Row w bp 69 l) (hP : Part [bp] w w1) : SemM w1 bs bk bw pl d g :=
  ⟨h.head.part hP (by simp; exact h.head.ne hp (by decide)), h.words.part hP (by simp; exact h.words.head.ne hp (by decide)) (by simp; exact h.words.row.ne hp (by decide))⟩
theorem enter1_any {w : World} {bp bs b : Nat} {nx : Value} {an wy c saw put : Int} (hp : Row w bp 69 (pendM bs nx an wy)) (hb : Row w b 35 [.pointer (some ⟨bp, 0, none⟩)]) :
    Calls Try.prog 34 #[.agg #[.int .u8 3, .int .i64 c, .int .u64 saw, .int .u64 put, .bool true], .pointer (some ⟨b, 0, none⟩)] w fun e w' => e = .returned (.tuple #[]) ∧ ∃ nx', Row w' bp 69 (pendM bs nx' an wy) ∧ WaitM w' bp nx' saw ∧ Part [bp] w w' := by
  have hlt := hp.lt
  have hbl := hb.lt
  have hc : w.cell? ⟨b, 0, none⟩ = some (.pointer (some ⟨bp, 0, none⟩)) := hb.cell 0
  have HP := Lib.hid hp
  clear hp hb
  go_enter Try.func34, Try.ntmps34
  go_wp2_with (go_at_call 35; refine (wait_any (HP.out.alloc _)).mono ?_; rintro e w1 ⟨rfl, nx', hr, ha, hP⟩; have HR := Lib.hid hr; have HA := Lib.hid ha; have HQ := Lib.hid hP; clear hr ha hP)
  go_end0
  exact ⟨rfl, nx', HR.out, HA.out, ((Part.refl [bp] w).alloc _).then_ HQ.out⟩
theorem mdo_add {w : World} {bk bw : Nat} {d g : Int} (h : Words w bk bw [d, g]) : Calls Try.prog 44 #[.pointer (some ⟨bk, 0, none⟩), .agg #[.int .u8 3, .int .i64 0, .int .u64 0, .int .u64 1]] w (Acted w bk bw [IntKind.u64.wrap (d + 1), g] (.tuple #[.agg #[.int .u8 3, .int .i64 0, .int .u64 d, .int .u64 (IntKind.u64.wrap (d + 1)), .bool true], .int .i64 0])) := do_add (i := 0) h rfl
theorem mdo_load0 {w : World} {bk bw : Nat} {d g : Int} (h : Words w bk bw [d, g]) : Calls Try.prog 44 #[.pointer (some ⟨bk, 0, none⟩), .agg #[.int .u8 1, .int .i64 0, .int .u64 0, .int .u64 0]] w (Acted w bk bw [d, g] (.tuple #[.agg #[.int .u8 1, .int .i64 0, .int .u64 d, .int .u64 d, .bool true], .int .i64 0])) := do_load (i := 0) h rfl
theorem mdo_load1 {w : World} {bk bw : Nat} {d g : Int} (h : Words w bk bw [d, g]) : Calls Try.prog 44 #[.pointer (some ⟨bk, 0, none⟩), .agg #[.int .u8 1, .int .i64 1, .int .u64 0, .int .u64 0]] w (Acted w bk bw [d, g] (.tuple #[.agg #[.int .u8 1, .int .i64 1, .int .u64 g, .int .u64 g, .bool true], .int .i64 0])) := do_load (i := 1) h rfl
theorem Row.of_eq {w : World} {b : Nat} {t : TypeId} {l l' : List Value} (h : Row w b t l) (he : l = l') : Row w b t l' := he ▸ h
def noDid : List Value := [.int .u8 0, .int .i64 0, .int .u64 0, .int .u64 0, .bool false]
/-- behind the action: what it did lies in a block g of its own -/
structure MidS (w : World) (bk bw bp : Nat) (ws : List Int) (l did : List Value) (g : Nat) (wx : World) : Prop where
  lo : w.heap.size < g
  words : Words wx bk bw ws
  pend : Row wx bp 69 l
  did : Row wx g 45 did
  res : Row wx w.heap.size 45 noDid
  part : Part [bw] w wx
def MidG (w : World) (bk bw bp : Nat) (ws : List Int) (l did : List Value) (v : Value) (wx : World) : Prop := ∃ g, v = .pointer (some ⟨g, 0, none⟩) ∧ MidS w bk bw bp ws l did g wx

section
variable {w w2 : World} {bk bw bp : Nat} {ws ws' : List Int} {l : List Value} {k c saw put : Int} {ok : Bool}
theorem mids_a (h : Words w bk bw ws) (hp : Row w bp 69 l) (hW : Words w2 bk bw ws') (hP : Part [bw] (w.alloc (.cells noDid.toArray 45)).drew w2) {did : List Value} :
    MidS w bk bw bp ws' l did w2.heap.size (w2.alloc (.cells did.toArray 45)) := by
  have hn : bp ∉ [bw] := by simpa using hp.ne h.row (by decide)
  have hb := h.row.lt
  have h0 : w.heap.size ∉ [bw] := by simp; omega
  have hr : Row w2 w.heap.size 45 noDid := Row.part (Row.new w _ _).drew hP h0
  exact ⟨hr.lt, hW.alloc _, (Row.part (hp.alloc _).drew hP hn).alloc _, Row.new _ _ _, hr.alloc _, (Part.trans (S' := [bw]) (((Part.refl [bw] w).alloc _).drew) hP (by simp)).alloc _⟩
theorem mids_b (h : Words w bk bw ws) (hp : Row w bp 69 l) (hW : Words w2 bk bw ws') (hP : Part [bw] ((w.alloc (.cells noDid.toArray 45)).alloc (.cells noDid.toArray 45)).drew w2) :
    MidS w bk bw bp ws' l [.int .u8 k, .int .i64 c, .int .u64 saw, .int .u64 put, .bool ok] (w.heap.size + 1)
      (((((w2.setCell ⟨w.heap.size + 1, 0, none⟩ (.int .u8 k)).setCell ⟨w.heap.size + 1, 1, none⟩ (.int .i64 c)).setCell ⟨w.heap.size + 1, 2, none⟩ (.int .u64 saw)).setCell ⟨w.heap.size + 1, 3, none⟩ (.int .u64 put)).setCell ⟨w.heap.size + 1, 4, none⟩ (.bool ok)) := by
  have hn : bp ∉ [bw] := by simpa using hp.ne h.row (by decide)
  have hb := h.row.lt
  have hb' := h.head.lt
  have hpl := hp.lt
  have h0 : w.heap.size ∉ [bw] := by simp; omega
  have h1 : w.heap.size + 1 ∉ [bw] := by simp; omega
  have hr : Row w2 w.heap.size 45 noDid := Row.part ((Row.new w _ _).alloc _).drew hP h0
  have hr1 : Row w2 (w.heap.size + 1) 45 noDid := Row.part (Row.new2 w _ _ _ rfl).drew hP h1
  have hp2 := Row.part ((hp.alloc _).alloc _).drew hP hn
  have hE : Part [w.heap.size + 1] w2 (((((w2.setCell ⟨w.heap.size + 1, 0, none⟩ (.int .u8 k)).setCell ⟨w.heap.size + 1, 1, none⟩ (.int .i64 c)).setCell ⟨w.heap.size + 1, 2, none⟩ (.int .u64 saw)).setCell ⟨w.heap.size + 1, 3, none⟩ (.int .u64 put)).setCell ⟨w.heap.size + 1, 4, none⟩ (.bool ok)) := by
    repeat (refine Part.set ?_ (by simp) _)
    exact Part.refl _ _
  refine ⟨by omega, hW.part hE (by simp; omega) (by simp; omega), hp2.part hE (by simp; omega), ?_, hr.part hE (by simp), ?_⟩
  · exact Row.of_eq (((((hr1.set 0 _).set 1 _).set 2 _).set 3 _).set 4 _) rfl
  · refine Part.trans (S' := [w.heap.size + 1]) (Part.trans (S' := [bw]) ((((Part.refl [bw] w).alloc _).alloc _).drew) hP (by simp)) hE (fun q hq hm => ?_)
    simp at hm
    omega
theorem MidS.drew {did : List Value} {g : Nat} {wx : World} (h : MidS w bk bw bp ws l did g wx) : MidS w bk bw bp ws l did g wx.drew := ⟨h.lo, h.words.drew, h.pend, h.did, h.res, h.part.drew⟩
end
/-- blocks that the boxes of a function never are -/
def otherT (t : TypeId) : Bool := t == 40 || t == 31
def Hard (S : List Nat) (w : World) : Prop := ∀ q, q ∈ S → ∃ t l, Row w q t l ∧ (t = 45 ∨ t = 69 ∨ t = 97 ∨ t = 4 ∨ t = 3 ∨ (t = 35 ∧ 2 ≤ l.length) ∨ otherT t = true)
theorem Row.stay {S : List Nat} {w w1 : World} {b : Nat} {t : TypeId} {l : List Value} (h : Row w b t l) (hP : Part S w w1) (hS : Hard S w) (h1 : t ≠ 45) (h2 : t ≠ 69) (h3 : t ≠ 97) (h4 : t ≠ 4 := by decide) (h5 : t ≠ 3 := by decide) (h6 : t = 35 → l.length ≤ 1 := by first | (intro h; exact absurd h (by decide)) | (intro _; simp)) (h7 : otherT t = false := by decide) : Row w1 b t l :=
  h.part hP fun hm => by
    obtain ⟨t', l', hr, ht⟩ := hS b hm
    rcases ht with rfl | rfl | rfl | rfl | rfl | ⟨rfl, h2l⟩ | ho
    · exact h.ne hr h1 rfl
    · exact h.ne hr h2 rfl
    · exact h.ne hr h3 rfl
    · exact h.ne hr h4 rfl
    · exact h.ne hr h5 rfl
    · by_cases e : t = 35
      · subst e
        have := h.inj hr
        subst this
        have := h6 rfl
        omega
      · exact h.ne hr e rfl
    · exact h.ne hr (fun e => by subst e; rw [h7] at ho; cases ho) rfl
section
variable {S : List Nat} {w w1 : World} {bp : Nat} {nx t : Value} {k c o n : Int}
theorem ActM.stay (h : ActM w bp nx k c o n t) (hP : Part S w w1) (hS : Hard S w) : ActM w1 bp nx k c o n t := by
  obtain ⟨b1, b2, b3, rfl, h1, h2, h3⟩ := h
  exact ⟨b1, b2, b3, rfl, h1.stay hP hS (by decide) (by decide) (by decide), h2.stay hP hS (by decide) (by decide) (by decide), h3.stay hP hS (by decide) (by decide) (by decide)⟩
theorem LoadM.stay (h : LoadM w bp nx c t) (hP : Part S w w1) (hS : Hard S w) : LoadM w1 bp nx c t := by
  obtain ⟨b, h1, h2⟩ := h
  exact ⟨b, h1.stay hP hS, h2.stay hP hS (by decide) (by decide) (by decide)⟩
theorem WaitM.stay {tk : Int} (h : WaitM w bp nx tk) (hP : Part S w w1) (hS : Hard S w) : WaitM w1 bp nx tk := by
  obtain ⟨b1, b2, h1, h2, h3⟩ := h
  exact ⟨b1, b2, h1.stay hP hS, h2.stay hP hS (by decide) (by decide) (by decide), h3.stay hP hS (by decide) (by decide) (by decide)⟩
theorem EnterM.stay (h : EnterM w bp nx) (hP : Part S w w1) (hS : Hard S w) : EnterM w1 bp nx := by
  obtain ⟨b, h1, h2⟩ := h
  exact ⟨b, h1.stay hP hS, h2.stay hP hS (by decide) (by decide) (by decide)⟩
end
/-- behind a step: what it did has been handed back -/
theorem step_end {w wc w3 wf : World} {bp bs bk bw gb : Nat} {pl d g d' g' : Int} {l l' did z : List Value} (hs : SemM w bs bk bw pl d g) (hM : MidS w bk bw bp [d', g'] l did gb wc) (hr : Row w3 bp 69 l') (hQ : Part [bp] wc w3) (hz : Row w3 w.heap.size 45 z) (hE : Part [w.heap.size] w3 wf) :
    Row wf bp 69 l' ∧ Hard [w.heap.size] w3 ∧ SemM wf bs bk bw pl d' g' ∧ Part [bp, bw] w wf := by
  have e1 := hs.head.lt
  have e2 := hs.words.head.lt
  have e3 := hs.words.row.lt
  have hb : bs ∉ [bw] := by simpa using hs.head.ne hs.words.row (by decide)
  have hc : Row wc bs 66 [.pointer (some ⟨bk, 0, none⟩), .int .u64 pl] := hs.head.part hM.part hb
  have hc3 := hc.part hQ (by simpa using hc.ne hM.pend (by decide))
  have hw3 := hM.words.part hQ (by simpa using hM.words.head.ne hM.pend (by decide)) (by simpa using hM.words.row.ne hM.pend (by decide))
  refine ⟨hr.part hE (by simpa using hr.ne hz (by decide)), ?_, ⟨hc3.part hE (by simp; omega), hw3.part hE (by simp; omega) (by simp; omega)⟩, ?_⟩
  · intro q hq
    simp at hq
    subst hq
    exact ⟨_, _, hz, .inl rfl⟩
  · refine Part.trans (S' := [w.heap.size]) (Part.trans (S' := [bp]) (hM.part.mono (S' := [bp, bw]) (fun q _ hm => by simp at hm; simp [hm])) hQ (fun q _ hm => by simp at hm; simp [hm])) hE (fun q hq hm => ?_)
    simp at hm
    omega
/-- the first step of an enter: the ticket is drawn -/
theorem act1_enter {w : World} {bp bs bk bw b1 b2 b3 b : Nat} {nx : Value} {an wy pl d g : Int} (hp : Row w bp 69 (pendM bs nx an wy)) (hs : SemM w bs bk bw pl d g)
    (h1 : Row w b1 35 [.pointer (some ⟨bp, 0, none⟩)]) (h2 : Row w b2 79 [.int .u8 3, .int .i64 0, .int .u64 0, .int .u64 1]) (h3 : Row w b3 81 [.func (.func 34) #[] #[.pointer (some ⟨b, 0, none⟩)]]) (h4 : Row w b 35 [.pointer (some ⟨bp, 0, none⟩)]) :
    Calls Try.prog 43 #[.pointer (some ⟨b1, 0, none⟩), .pointer (some ⟨b2, 0, none⟩), .pointer (some ⟨b3, 0, none⟩)] w fun e w' => e = .returned (.agg #[.int .u8 3, .int .i64 0, .int .u64 d, .int .u64 (IntKind.u64.wrap (d + 1)), .bool true])
      ∧ ∃ nx', Row w' bp 69 (pendM bs nx' an wy) ∧ WaitM w' bp nx' d ∧ SemM w' bs bk bw pl (IntKind.u64.wrap (d + 1)) g ∧ Part [bp, bw] w w' := by
  have c1 : w.cell? ⟨b1, 0, none⟩ = some (.pointer (some ⟨bp, 0, none⟩)) := h1.cell 0
  obtain ⟨a0, a1, a2, a3⟩ := h2.four
  have c3 : w.cell? ⟨b3, 0, none⟩ = some (.func (.func 34) #[] #[.pointer (some ⟨b, 0, none⟩)]) := h3.cell 0
  have p0 : w.cell? ⟨bp, 0, none⟩ = some (.pointer (some ⟨bs, 0, none⟩)) := hp.cell 0
  have s0 : w.cell? ⟨bs, 0, none⟩ = some (.pointer (some ⟨bk, 0, none⟩)) := hs.head.cell 0
  have l1 := h1.lt
  have l2 := h2.lt
  have l3 := h3.lt
  have lp := hp.lt
  have ls := hs.head.lt
  have lw := hs.words.row.lt
  have n1 : Hid (b1 ∉ [bw]) := Lib.hid (by simpa using h1.ne hs.words.row (by decide))
  have n2 : Hid (b2 ∉ [bw]) := Lib.hid (by simpa using h2.ne hs.words.row (by decide))
  have n3 : Hid (b3 ∉ [bw]) := Lib.hid (by simpa using h3.ne hs.words.row (by decide))
  have n4 : Hid (b ∉ [bw]) := Lib.hid (by simpa using h4.ne hs.words.row (by decide))
  have np : Hid (bp ∉ [bw]) := Lib.hid (by simpa using hp.ne hs.words.row (by decide))
  have ns : Hid (bs ∉ [bw]) := Lib.hid (by simpa using hs.head.ne hs.words.row (by decide))
  have nd1 : Hid (w.heap.size + 1 ∉ [bw]) := Lib.hid (by simp; omega)
  have e1 : ¬ w.heap.size + 1 = bp := by omega
  have e2 : ¬ bp = w.heap.size + 1 := by omega
  have e3 : ¬ w.heap.size + 1 = bs := by omega
  have e4 : ¬ bs = w.heap.size + 1 := by omega
  have e5 : ¬ w.heap.size + 1 = b1 := by omega
  have e6 : ¬ b1 = w.heap.size + 1 := by omega
  have e7 : ¬ w.heap.size + 1 = b2 := by omega
  have e8 : ¬ b2 = w.heap.size + 1 := by omega
  have H1 := Lib.hid h1
  have H2 := Lib.hid h2
  have H3 := Lib.hid h3
  have H4 := Lib.hid h4
  have HP := Lib.hid hp
  have HS := Lib.hid hs
  clear h1 h2 h3 h4 hp hs
  go_enter Try.func43, Try.ntmps43
  go_upto_region 1 with fail
  go_cut [4] (fun s4 wx => MidG w bk bw bp [IntKind.u64.wrap (d + 1), g] (pendM bs nx an wy) [.int .u8 3, .int .i64 0, .int .u64 d, .int .u64 (IntKind.u64.wrap (d + 1)), .bool true] s4 wx)
  case first =>
    go_region_held3 (fun w' => w'.cell? ⟨b1, 0, none⟩ = some (.pointer (some ⟨bp, 0, none⟩)) ∧ w'.cell? ⟨bp, 0, none⟩ = some (.pointer (some ⟨bs, 0, none⟩)) ∧ w'.cell? ⟨bs, 0, none⟩ = some (.pointer (some ⟨bk, 0, none⟩)) ∧ w'.cell? ⟨b2, 0, none⟩ = some (.int .u8 3) ∧ w'.cell? ⟨b2, 1, none⟩ = some (.int .i64 0) ∧ w'.cell? ⟨b2, 2, none⟩ = some (.int .u64 0) ∧ w'.cell? ⟨b2, 3, none⟩ = some (.int .u64 1))
      (first | (with_reducible exact ⟨q0, q1, q2, q3, q4, q5, q6⟩) | go_keep)
      (first
      | (go_at_call 44; (with_reducible refine (mdo_add (HS.out.words.alloc _).drew).mono ?_); rintro e w2 ⟨rfl, hW2, hP2⟩; have q0 := (Row.part (Row.drew (H1.out.alloc _)) hP2 n1.out).cell 0; have hpr := Row.part (Row.drew (HP.out.alloc _)) hP2 np.out; have q1 : w2.cell? ⟨bp, 0, none⟩ = some (.pointer (some ⟨bs, 0, none⟩)) := hpr.cell 0; have q2 := (Row.part (Row.drew (HS.out.head.alloc _)) hP2 ns.out).cell 0; obtain ⟨q3, q4, q5, q6⟩ := (Row.part (Row.drew (H2.out.alloc _)) hP2 n2.out).four; have ql1 := (Row.part (Row.drew (H1.out.alloc _)) hP2 n1.out).lt; have ql2 := (Row.part (Row.drew (H2.out.alloc _)) hP2 n2.out).lt; have qlp := hpr.lt; have qls := (Row.part (Row.drew (HS.out.head.alloc _)) hP2 ns.out).lt; have HMA := Lib.hid (mids_a HS.out.words HP.out hW2 hP2 (did := [.int .u8 3, .int .i64 0, .int .u64 d, .int .u64 (IntKind.u64.wrap (d + 1)), .bool true])); clear hpr hW2 hP2)
      | (go_at_call 44; (with_reducible refine (mdo_add ((HS.out.words.alloc _).alloc _).drew).mono ?_); rintro e w2 ⟨rfl, hW2, hP2⟩; have q0 := (Row.part (Row.drew ((H1.out.alloc _).alloc _)) hP2 n1.out).cell 0; have hpr := Row.part (Row.drew ((HP.out.alloc _).alloc _)) hP2 np.out; have q1 : w2.cell? ⟨bp, 0, none⟩ = some (.pointer (some ⟨bs, 0, none⟩)) := hpr.cell 0; have q2 := (Row.part (Row.drew ((HS.out.head.alloc _).alloc _)) hP2 ns.out).cell 0; obtain ⟨q3, q4, q5, q6⟩ := (Row.part (Row.drew ((H2.out.alloc _).alloc _)) hP2 n2.out).four; have HMB := Lib.hid (mids_b HS.out.words HP.out hW2 hP2 (k := 3) (c := 0) (saw := d) (put := IntKind.u64.wrap (d + 1)) (ok := true)); have hr3 : Row w2 (w.heap.size + 1) 45 noDid := Row.part (Row.new2 w _ _ _ rfl).drew hP2 nd1.out; unfold noDid at hr3; obtain ⟨d0, d1, d2, d3, d4⟩ := hr3.five; have hf3 := hr3.free; have hlt3 := hr3.lt; clear hpr hr3 hW2 hP2))
    all_goals
      go_wp2_with fail
      go_meet
      first | exact ⟨_, rfl, HMA.out⟩ | exact ⟨_, rfl, HMB.out⟩ | exact ⟨_, rfl, HMA.out.drew⟩ | exact ⟨_, rfl, HMB.out.drew⟩
  case rest =>
    obtain ⟨gb, rfl, hM⟩ := hcut
    have h3' := H3.out.part hM.part n3.out
    have h4' := H4.out.part hM.part n4.out
    have c3' : wc.cell? ⟨b3, 0, none⟩ = some (.func (.func 34) #[] #[.pointer (some ⟨b, 0, none⟩)]) := h3'.cell 0
    obtain ⟨t0, t1, t2, t3, t4⟩ := hM.did.five
    have hres := hM.res
    have hgp : gb ∉ [bp] := by simpa using hM.did.ne hM.pend (by decide)
    have hrp : w.heap.size ∉ [bp] := by simpa using hM.res.ne hM.pend (by decide)
    have HM := Lib.hid hM
    have H4' := Lib.hid h4'
    have HGP := Lib.hid hgp
    have HRP := Lib.hid hrp
    have f1 : ¬ gb = w.heap.size := by have := hM.lo; omega
    have f2 : ¬ w.heap.size = gb := by have := hM.lo; omega
    clear h3' h4' hM hres hgp hrp c1 a0 a1 a2 a3 c3 p0 s0
    go_wp2_with (go_at_call 34; (with_reducible refine (enter1_any HM.out.pend H4'.out).mono ?_); rintro e w3 ⟨rfl, nx', hr, ha, hP⟩; have hd := HM.out.did.part hP HGP.out; have hz := HM.out.res.part hP HRP.out; unfold noDid at hz; obtain ⟨z0, z1, z2, z3, z4⟩ := hz.five; have zf := hz.free; have zl := hz.lt; obtain ⟨t0, t1, t2, t3, t4⟩ := hd.five; have tl := hd.lt; have HZ := Lib.hid hz; have HR := Lib.hid hr; have HA := Lib.hid ha; have HQ := Lib.hid hP; clear hd hz hr ha hP)
    refine bodyPost_ret (v := .agg #[.int .u8 3, .int .i64 0, .int .u64 d, .int .u64 (IntKind.u64.wrap (d + 1)), .bool true]) (by simp [results, Try.results43, go_sem, z0, z1, z2, z3, z4]) rfl ⟨rfl, nx', ?_⟩
    obtain ⟨g1, g2, g3, g4⟩ := step_end HS.out HM.out HR.out HQ.out HZ.out (Part.set (Part.set (Part.set (Part.set (Part.set (Part.refl [w.heap.size] w3) (p := ⟨w.heap.size, 0, none⟩) (by simp) (.int .u8 3)) (p := ⟨w.heap.size, 1, none⟩) (by simp) (.int .i64 0)) (p := ⟨w.heap.size, 2, none⟩) (by simp) (.int .u64 d)) (p := ⟨w.heap.size, 3, none⟩) (by simp) (.int .u64 (IntKind.u64.wrap (d + 1)))) (p := ⟨w.heap.size, 4, none⟩) (by simp) (.bool true))
    refine ⟨g1, HA.out.stay (S := [w.heap.size]) ?_ g2, g3, g4⟩
    repeat (refine Part.set ?_ (by simp) _)
    exact Part.refl _ _
end Go.Proofs.Ytamigipljgijlaa

/- THE WALKS of package hist: do. -/
import Derived.Test.YtiifhkfkcljoiaaIn
import Derived.Deep.RegionLaw
import Derived.Deep.AppendLies
import Derived.Laws.MakeOwn
namespace Go.Proofs.Ytiifhkfkcljoiaa
open Go Go.RowKit
set_option maxRecDepth 100000
set_option maxHeartbeats 3200000
section
variable {w : World} {bp bh bk bw m : Nat} {nx : Value} {s : ShM} {o : OpH} {l h d k v n : Int} {ws : List Int}
theorem HistM.on {w1 : World} (hs : HistM w bh bk bw l h d m ws) (hb : Below w.heap.size w w1) : HistM w1 bh bk bw l h d m ws := ⟨hs.head.below hb hs.head.lt, hs.words.part (Part.of_below hb (Nat.le_refl _) []) (by simp) (by simp), hs.len, hs.few⟩
theorem hdone_op (hp : Row w bp 85 (pendH bh nx s)) (hn : NextH bp m o w nx s) : Calls Try.prog 18 #[.pointer (some ⟨bp, 0, none⟩)] w fun e w' => e = .returned (.bool o.en) ∧ w = w' := by
  cases he : o.en with
  | true =>
    obtain rfl := hn.nil_ he
    exact done_yes hp
  | false =>
    obtain ⟨f, cs, rfl⟩ := hn.fn he
    exact done_no hp
/-- what an ended operation answers -/
def AnswerH (w : World) (f : ShotH) (e : Ending) (w' : World) : Prop := ∃ A c, e = .returned (.agg #[.int .u64 f.c, .int .u64 f.su, .int .i64 f.le, .int .i64 f.gr, .slice A f.bu.length c]) ∧ w'.ownsRow w.heap.size 38 1 (.slice A f.bu.length c) f.bu.length (u64s f.bu) ∧ Below w.heap.size w w'
theorem hanswer_op (hp : Row w bp 85 (pendH bh nx s)) (hn : NextH bp m o w nx s) (he : o.en = true) (hm : 0 < m) (hm2 : m ≤ 65532) : Calls Try.prog 20 #[.pointer (some ⟨bp, 0, none⟩)] w (AnswerH w ⟨o.c, o.su, o.le, o.gr, o.bu⟩) := by
  obtain rfl := hn.nil_ he
  obtain ⟨⟨e1, e2, e3, e4⟩, ⟨_, hb, hv, _⟩ | ⟨_, _, ⟨a, _⟩ | ⟨bb, hv, hr, _, ⟨a, _⟩ | ⟨_, hb, _⟩⟩⟩⟩ := hn
  · refine (hanswer_none hp hv).mono ?_
    rintro e w' ⟨he', hb'⟩
    refine ⟨none, 0, by rw [he', e1, e2, e3, e4, hb]; rfl, ?_, hb'⟩
    rw [hb]
    exact World.ownsRow_nil _ _ _ _
  · rw [he] at a; cases a
  · rw [he] at a; cases a
  · rw [hb] at hr
    rw [Nat.sub_self, List.replicate_zero, List.append_nil] at hr
    refine (hanswer_some hp (by rw [hv]) hr (by omega) (by omega)).mono ?_
    rintro e w' ⟨b', c', he', _, ho, hb'⟩
    exact ⟨_, _, by rw [he', e1, e2, e3, e4], ho, hb'⟩
/-- what an operation leaves that is done whole -/
def WholeH (w : World) (bh bk bw : Nat) (l h d : Int) (m : Nat) (ws : List Int) (f : ShotH) (e : Ending) (w' : World) : Prop :=
  ∃ A c, e = .returned (.tuple #[.agg #[.int .u64 f.c, .int .u64 f.su, .int .i64 f.le, .int .i64 f.gr, .slice A f.bu.length c], .int .i64 0]) ∧ w'.ownsRow w.heap.size 38 1 (.slice A f.bu.length c) f.bu.length (u64s f.bu) ∧ HistM w' bh bk bw l h d m ws ∧ Part [bw] w w'
/-- an operation alone, while it is under way -/
structure DoH (w : World) (bp bh bk bw : Nat) (l h d : Int) (m : Nat) (wE : List Int) (fE : ShotH) (ws : List Int) (o : OpH) (nx : Value) (s : ShM) (wr : World) : Prop where
  hist : HistM wr bh bk bw l h d m ws
  row : Row wr bp 85 (pendH bh nx s)
  next : NextH bp m o wr nx s
  ok : OkH m o
  alone : AloneH m ws o
  finW : finW m ws o = wE
  finS : finS m ws o = fE
  own : ∀ q, s.bv.ownBlock = some q → w.heap.size + 2 ≤ q
  lo : w.heap.size + 2 ≤ bp
  res : Row wr (w.heap.size + 1) 44 [.int .u64 0, .int .u64 0, .int .i64 0, .int .i64 0, .slice none 0 0]
  bwlt : bw < w.heap.size
  part : Part [bw] w wr
theorem OkH.step {m : Nat} {ws : List Int} {o : OpH} (h : OkH m o) : OkH m (stepH m ws o) := by
  have e : (stepH m ws o).k = o.k ∧ (stepH m ws o).v = o.v ∧ (stepH m ws o).i = o.i := by
    unfold stepH
    repeat (first | exact ⟨rfl, rfl, rfl⟩ | split)
  intro hk
  rw [e.1] at hk
  rw [e.2.1, e.2.2]
  exact h hk
theorem DoH.step {wE : List Int} {fE : ShotH} {wr w5 : World} {e : Ending} (hD : DoH w bp bh bk bw l h d m wE fE ws o nx s wr) (he : o.en = false) (hs : SteppedH wr bp bh bk bw l h d m ws o s e w5) :
    ∃ nx' s', DoH w bp bh bk bw l h d m wE fE (stepW m ws o) (stepH m ws o) nx' s' w5 ∧ muH m (stepH m ws o) < muH m o := by
  obtain ⟨T, hT, _, nx', s', hr, ⟨hn, hfr⟩, hh, hP⟩ := hs
  have hlen := hD.hist.len
  obtain ⟨a1, a2, a3, a4⟩ := alone_step hD.next.wf hD.alone he (by omega)
  have hsz := hD.part.size
  have hlt := hD.res.lt
  have hnot : w.heap.size + 1 ∉ bp :: bw :: T := by
    simp only [List.mem_cons, not_or]
    exact ⟨by have := hD.lo; omega, by have := hD.bwlt; omega, fun hm => by have := hD.own _ (hT _ hm); omega⟩
  refine ⟨nx', s', ⟨hh, hr, hn, hD.ok.step, a1, a2.trans hD.finW, a3.trans hD.finS, fun q hq => ?_, hD.lo, hD.res.part hP hnot, hD.bwlt, hD.part.trans hP (fun q hq hm => ?_)⟩, a4⟩
  · rcases hfr q hq with hq | hq
    · exact hD.own q hq
    · omega
  · simp only [List.mem_cons] at hm ⊢
    rcases hm with e | e | e
    · have := hD.lo; omega
    · exact .inl e
    · have := hD.own _ (hT _ e); omega
theorem hdo_op {o0 : OpH} (hs : HistM w bh bk bw l h d m ws) (hS : ∀ w, HistM w bh bk bw l h d m ws → Calls Try.prog 13 #[.pointer (some ⟨bh, 0, none⟩), .agg #[.int .u8 k, .int .i64 v, .int .u64 n]] w (BegunH w bh m o0)) (ho : OkH m o0) (ha : AloneH m ws o0) (hm : 0 < m) :
    Calls Try.prog 49 #[.pointer (some ⟨bh, 0, none⟩), .agg #[.int .u8 k, .int .i64 v, .int .u64 n]] w (WholeH w bh bk bw l h d m (finW m ws o0) (finS m ws o0)) := by
  have hfew := hs.few
  have hs2 := (hs.alloc (.cells #[.int .u8 k, .int .i64 v, .int .u64 n] 40)).alloc (.cells #[.int .u64 0, .int .u64 0, .int .i64 0, .int .i64 0, .slice none 0 0] 44)
  have HS2 := Lib.hid hs2
  have hbwlt := hs.words.row.lt
  have HST := Lib.hid (hS _ hs2)
  have hz2 : Row ((w.alloc (.cells #[.int .u8 k, .int .i64 v, .int .u64 n] 40)).alloc (.cells #[.int .u64 0, .int .u64 0, .int .i64 0, .int .i64 0, .slice none 0 0] 44)) (w.heap.size + 1) 44 [.int .u64 0, .int .u64 0, .int .i64 0, .int .i64 0, .slice none 0 0] := Row.at_ (w := w.alloc (.cells #[.int .u8 k, .int .i64 v, .int .u64 n] 40)) (by simp)
  have HZ2 := Lib.hid hz2
  have hp0 : Part [bw] w ((w.alloc (.cells #[.int .u8 k, .int .i64 v, .int .u64 n] 40)).alloc (.cells #[.int .u64 0, .int .u64 0, .int .i64 0, .int .i64 0, .slice none 0 0] 44)) := ((Part.refl [bw] w).alloc _).alloc _
  have HP0 := Lib.hid hp0
  have HO0 := Lib.hid ho
  have HA0 := Lib.hid ha
  have HM := Lib.hid hm
  have HFEW := Lib.hid hfew
  have HBW := Lib.hid hbwlt
  clear hs hS hs2 hz2 hp0 ho ha hm hbwlt
  go_enter Try.func49, Try.ntmps49
  go_wp2_with (go_at_call 13; (with_reducible refine HST.out.mono ?_); rintro e w2 ⟨bp, nx0, rfl, hlo, hr, hn, hb⟩; have HB2 := Lib.hid hb; have HL2 := Lib.hid hlo; have HR2 := Lib.hid hr; have HN2 := Lib.hid hn; clear hb hlo hr hn)
  have hD0 : DoH w bp bh bk bw l h d m (finW m ws o0) (finS m ws o0) ws o0 nx0 zeroS w2 := by
    have hlo := HL2.out
    have hb := HB2.out
    simp only [World.size_alloc] at hlo
    exact ⟨HS2.out.on hb, HR2.out, HN2.out, HO0.out, HA0.out, rfl, rfl, fun q hq => by simp [zeroS, nilU, Value.ownBlock] at hq, by omega, HZ2.out.below hb HZ2.out.lt, HBW.out, HP0.out.then_ (Part.of_below hb (Nat.le_refl _) [bw])⟩
  have HD0 := Lib.hid hD0
  clear hD0
  go_loopg [] (muH m o0) (fun (g : Nat) wr => ∃ ws1 o nx s, g = muH m o ∧ DoH w bp bh bk bw l h d m (finW m ws o0) (finS m ws o0) ws1 o nx s wr)
  case atStart => exact ⟨_, _, _, _, rfl, HD0.out⟩
  case round =>
    obtain ⟨ws1, o, nx, s, hg, hD⟩ := hrel
    have HG := Lib.hid hg
    have HD := Lib.hid hD
    clear hg hD HD0 HST HN2 HR2
    cases he : o.en with
    | true =>
      have HE := Lib.hid he
      obtain ⟨hw1, hf1⟩ := fin_over (ws := ws1) HD.out.next.wf he (by have := HD.out.hist.len; omega)
      have HW := Lib.hid (HD.out.finW.symm.trans hw1)
      have HF := Lib.hid (HD.out.finS.symm.trans hf1)
      clear he hw1 hf1
      go_wp2_with (first
        | (go_at_call 18; (with_reducible refine (hdone_op HD.out.row HD.out.next).mono ?_); rw [HE.out]; rintro e wx ⟨rfl, rfl⟩)
        | (go_at_call 20; (with_reducible refine (hanswer_op HD.out.row HD.out.next HE.out HM.out HFEW.out).mono ?_); rintro e w5 ⟨A5, c5, rfl, ho5, hb5⟩; have HO5 := Lib.hid ho5; have HB5 := Lib.hid hb5; have hz := HD.out.res.below hb5 HD.out.res.lt; have HZ5 := Lib.hid hz; obtain ⟨z0, z1, z2, z3, z4⟩ := hz.five; have zl := hz.lt; have zf := hz.free; clear ho5 hb5 hz))
      refine bodyPost_ret (v := .tuple #[.agg #[.int .u64 o.c, .int .u64 o.su, .int .i64 o.le, .int .i64 o.gr, .slice A5 o.bu.length c5], .int .i64 0]) (by simp [results, Try.results49, go_sem, z0, z1, z2, z3, z4]) rfl ?_
      suffices hE : Part [w.heap.size + 1] w5 _ from by
        have hp5 := HD.out.part.then_ (Part.of_below HB5.out (Nat.le_refl _) [bw])
        have hh := HD.out.hist.on HB5.out
        rw [HW.out, HF.out]
        refine ⟨A5, c5, rfl, ownsRow_base (own_part HO5.out hE (fun q hq => by simpa using own_off HO5.out HZ5.out (by decide) q hq)) HD.out.part.size, ⟨hh.head.part hE (by simpa using hh.head.ne HZ5.out (by decide)), hh.words.part hE (by simpa using hh.words.head.ne HZ5.out (by decide)) (by simpa using hh.words.row.ne HZ5.out (by decide)), hh.len, hh.few⟩, hp5.trans hE (fun q hq hm => ?_)⟩
        simp at hm
        omega
      repeat (first | (with_reducible exact Part.refl _ _) | refine Part.set ?_ (by simp) _)
    | false =>
      have HE := Lib.hid he
      clear he
      go_wp2_with (first
        | (go_at_call 18; (with_reducible refine (hdone_op HD.out.row HD.out.next).mono ?_); rw [HE.out]; rintro e wx ⟨rfl, rfl⟩)
        | (go_at_call 16; (with_reducible refine (hstep_op HD.out.row HD.out.hist HD.out.next HD.out.ok HM.out HE.out).mono ?_); rintro e w5 hst; obtain ⟨nx', s', hD5, hmu⟩ := HD.out.step HE.out hst; have HD5 := Lib.hid hD5; have HMU := Lib.hid hmu; obtain ⟨T, _, rfl, _⟩ := hst; clear hD5 hmu))
      go_roundg (muH m (stepH m ws1 o))
      case measure =>
        rw [HG.out]
        exact HMU.out
      case rel => exact ⟨_, _, nx', s', rfl, HD5.out⟩
end
end Go.Proofs.Ytiifhkfkcljoiaa

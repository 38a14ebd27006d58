/- THE WALKS of package hist: the document's show and Step as one contract. -/
import Derived.Test.YtiifhkfkcljoiaaJq
import Derived.Test.YtiifhkfkcljoiaaJo
import Derived.Test.YtiifhkfkcljoiaaJu
import Derived.Deep.RegionLaw
import Derived.Deep.AppendLies
import Derived.Laws.MakeOwn
namespace Go.Proofs.Ytiifhkfkcljoiaa
open Go Go.RowKit
set_option maxRecDepth 100000
set_option maxHeartbeats 1600000
section
variable {w : World} {A Ab : Option Addr} {n cb m : Nat} {ws : List Int} {l h d sw : Int}
theorem dshow_any (o : OpH) (_r : Sc.rightB l h d = true) (hA : Ext .u64 w A ws) (hB : Ext .u64 w Ab o.bu) (hlt : ∀ a, A = some a → a.block < w.heap.size) (_hlb : ∀ a, Ab = some a → a.block < w.heap.size) (hl : ws.length = m + 4) (hf : m ≤ 65532) (h0 : 0 < m) (hk : o.k = 2) (he : o.en = false) (hld : o.ld = false) (hat : (o.bu = [] ∧ o.at_ ≤ 3) ∨ (o.at_ = 4 + o.bu.length ∧ o.bu.length < m)) :
    Calls Try.prog 41 #[.slice A ws.length n, .agg (undU o sw Ab cb)] w (DocStep w A Ab m ws o) := by
  obtain ⟨k, v, nn, i, at_, ld, saw, en, c, su, le, gr, bu⟩ := o
  dsimp only at hk he hld hat hB
  subst hk he hld
  rcases hat with ⟨hbu, hat⟩ | ⟨hat, hbl⟩
  · subst hbu
    have h4 : at_ = 0 ∨ at_ = 1 ∨ at_ = 2 ∨ at_ = 3 := by omega
    rcases h4 with rfl | rfl | rfl | rfl
    · skip
      exact (dshow_count (k := 2) (v := v) (nn := nn) (sw := sw) (n := n) (Ab := Ab) (bl := ([] : List Int).length) (cb := cb) hA hlt hl hf h0 (gw_at (by omega))).mono (doc_mk (o' := ⟨2, v, nn, i, 1, false, saw, false, gw ws (m + 3), su, le, gr, []⟩) (sw' := sw) (cb := cb) (by simp [stepH]) (by simp [stepW]) (by simp [didH, saw_]) (fun a => by cases a) hB)
    · skip
      exact (dshow_least (k := 2) (v := v) (nn := nn) (sw := sw) (n := n) (Ab := Ab) (bl := ([] : List Int).length) (cb := cb) hA hlt hl hf h0 (gw_at (by omega))).mono (doc_mk (o' := ⟨2, v, nn, i, 2, false, saw, false, c, su, wrap64 (gw ws (m + 1)), gr, []⟩) (sw' := sw) (cb := cb) (by simp [stepH]) (by simp [stepW]) (by simp [didH, saw_]) (fun a => by cases a) hB)
    · skip
      exact (dshow_greatest (k := 2) (v := v) (nn := nn) (sw := sw) (n := n) (Ab := Ab) (bl := ([] : List Int).length) (cb := cb) hA hlt hl hf h0 (gw_at (by omega))).mono (doc_mk (o' := ⟨2, v, nn, i, 3, false, saw, false, c, su, le, wrap64 (wrap64 (gw ws (m + 2)) - 1), []⟩) (sw' := sw) (cb := cb) (by simp [stepH]) (by simp [stepW]) (by simp [didH, saw_]) (fun a => by cases a) hB)
    · skip
      exact (dshow_total (k := 2) (v := v) (nn := nn) (sw := sw) (n := n) (Ab := Ab) (bl := ([] : List Int).length) (cb := cb) hA hlt hl hf h0 (gw_at (by omega))).mono (doc_mk (o' := ⟨2, v, nn, i, 4, false, saw, false, c, gw ws m, le, gr, []⟩) (sw' := sw) (cb := cb) (by simp [stepH]) (by simp [stepW]) (by simp [didH, saw_]) (fun a => by cases a) hB)
  · subst hat
    have q0 : ¬ (4 + bu.length = 0) := by omega
    have q1 : ¬ (4 + bu.length = 1) := by omega
    have q2 : ¬ (4 + bu.length = 2) := by omega
    have q3 : ¬ (4 + bu.length = 3) := by omega
    refine (dshow_bucket (k := 2) (v := v) (nn := nn) (sw := sw) (n := n) (uc := c) (us := su) (ul := le) (ug := gr) (cb := cb) (at9 := ((4 + bu.length : Nat) : Int)) hA hlt hB hl hf hbl (by simp) (gw_at (by omega))).mono ?_
    rintro e w' ⟨g5, c5, h1, h2, h3, hD⟩
    have e1 : stepH m ws ⟨2, v, nn, i, 4 + bu.length, false, saw, false, c, su, le, gr, bu⟩ = ⟨2, v, nn, i, 4 + bu.length + 1, false, saw, decide (bu.length + 1 = m), c, su, le, gr, bu ++ [gw ws bu.length]⟩ := by simp [stepH, q1, q2, q3]
    unfold DocStep
    rw [e1, show stepW m ws ⟨2, v, nn, i, 4 + bu.length, false, saw, false, c, su, le, gr, bu⟩ = ws by simp [stepW], show didH m ws ⟨2, v, nn, i, 4 + bu.length, false, saw, false, c, su, le, gr, bu⟩ = #[.int .u8 1, .int .i64 (bu.length : Int), .int .u64 (gw ws bu.length), .int .u64 (gw ws bu.length), .bool true] by simp [didH, saw_, q1, q2, q3]]
    refine ⟨sw, some ⟨g5, 0, none⟩, c5, (fun a => by cases a), h1, .inr (fun a ha => by cases ha; exact ⟨h2, h3⟩), ?_⟩
    have e2 : undU ⟨2, v, nn, i, 4 + bu.length + 1, false, saw, decide (bu.length + 1 = m), c, su, le, gr, bu ++ [gw ws bu.length]⟩ sw (some ⟨g5, 0, none⟩) c5 = #[.int .u8 2, .int .i64 v, .int .u64 nn, .int .i64 (((4 + bu.length : Nat) : Int) + 1), .bool false, .int .u64 sw, .bool (decide (bu.length + 1 = m)), .int .u64 c, .int .u64 su, .int .i64 le, .int .i64 gr, .slice (some ⟨g5, 0, none⟩) (bu.length + 1) c5] := by simp [undU]
    rw [e2]
    exact hD
theorem doc_close {w w0 w3 wf : World} {A A2 Ab Ab9 : Option Addr} {n2 : Nat} {ws2 bu9 : List Int} {u d : Array Value} (S : List Nat) (he : Ext .u64 w3 A2 ws2) (hf : A2 = A ∨ ∀ a, A2 = some a → w0.heap.size ≤ a.block ∧ a.block < w3.heap.size) (hlt : ∀ a, A = some a → a.block < w.heap.size) (hlb : ∀ a, Ab = some a → a.block < w.heap.size) (hB : Ext .u64 w3 Ab9 bu9) (hBf : Ab9 = Ab ∨ ∀ a, Ab9 = some a → w0.heap.size ≤ a.block ∧ a.block < w3.heap.size) (hb : Below w.heap.size w w3) (h0 : w.heap.size ≤ w0.heap.size) (hS : ∀ b ∈ S, (w.heap.size ≤ b ∧ b < w0.heap.size) ∨ w3.heap.size ≤ b) (hP : Part S w3 wf) :
    Ext .u64 wf Ab9 bu9 ∧ (Ab9 = Ab ∨ ∀ a, Ab9 = some a → w.heap.size ≤ a.block ∧ a.block < wf.heap.size) ∧ DocTo w A ws2 u d (.returned (.tuple #[.slice A2 ws2.length n2, .agg u, .agg d])) wf := by
  refine ⟨hB.parted hP (fun a ha hm => ?_), ?_, doc_end S he hf hlt hb h0 hS hP⟩
  · have h1 := hS _ hm
    have hsz := hb.size
    rcases hBf with e | hBf
    · have := hlb a (e ▸ ha)
      omega
    · have := hBf a ha
      omega
  · rcases hBf with e | hBf
    · exact .inl e
    · exact .inr (fun a ha => ⟨Nat.le_trans h0 (hBf a ha).1, Nat.lt_of_lt_of_le (hBf a ha).2 hP.size⟩)
/-- what an action did, five cells -/
def FiveD (a : Array Value) : Prop := ∃ d0 d1 d2 d3 d4, a = #[.int .u8 d0, .int .i64 d1, .int .u64 d2, .int .u64 d3, .bool d4]
theorem five_ite {c : Prop} [Decidable c] {a b : Array Value} (ha : FiveD a) (hb : FiveD b) : FiveD (if c then a else b) := by
  by_cases h : c
  · rw [if_pos h]; exact ha
  · rw [if_neg h]; exact hb
theorem did_five {m : Nat} {ws : List Int} (o : OpH) : FiveD (didH m ws o) := by
  unfold didH saw_
  repeat' (first | exact ⟨_, _, _, _, _, rfl⟩ | refine five_ite ?_ ?_)
theorem dstep_rec {v nn saw c su le gr : Int} {i at_ : Nat} {ld : Bool} {bu : List Int} (hA : Ext .u64 w A ws) (hB : Ext .u64 w Ab bu) (hlt : ∀ a, A = some a → a.block < w.heap.size) (hlb : ∀ a, Ab = some a → a.block < w.heap.size)
    (hC : ∀ w1 : World, Ext .u64 w1 A ws → Ext .u64 w1 Ab bu → (∀ a, A = some a → a.block < w1.heap.size) → (∀ a, Ab = some a → a.block < w1.heap.size) → Calls Try.prog 42 #[.agg #[.int .i64 l, .int .i64 h, .int .i64 d], .slice A ws.length n, .agg #[.int .u8 1, .int .i64 v, .int .u64 nn, .int .i64 (at_ : Int), .bool ld, .int .u64 sw, .bool false, .int .u64 c, .int .u64 su, .int .i64 le, .int .i64 gr, .slice Ab bu.length cb]] w1 (DocStep w1 A Ab m ws ⟨1, v, nn, i, at_, ld, saw, false, c, su, le, gr, bu⟩)) :
    Calls Try.prog 17 #[.agg #[.int .i64 l, .int .i64 h, .int .i64 d], .slice A ws.length n, .agg #[.int .u8 1, .int .i64 v, .int .u64 nn, .int .i64 (at_ : Int), .bool ld, .int .u64 sw, .bool false, .int .u64 c, .int .u64 su, .int .i64 le, .int .i64 gr, .slice Ab bu.length cb]] w (DocStep w A Ab m ws ⟨1, v, nn, i, at_, ld, saw, false, c, su, le, gr, bu⟩) := by
  obtain ⟨o', ho'⟩ : ∃ o', stepH m ws ⟨1, v, nn, i, at_, ld, saw, false, c, su, le, gr, bu⟩ = o' := ⟨_, rfl⟩
  obtain ⟨y0, y1, y2, y3, y4, y5, y6, y7, y8, y9, ya, yb, yc⟩ := o'
  obtain ⟨d0, d1, d2, d3, d4, hdi⟩ := did_five (m := m) (ws := ws) ⟨1, v, nn, i, at_, ld, saw, false, c, su, le, gr, bu⟩
  have HST := Lib.hid ho'
  have HDI := Lib.hid hdi
  have hb0 : Below w.heap.size w ((((w.alloc (.cells #[.int .i64 l, .int .i64 h, .int .i64 d] 23)).alloc (.cells #[.int .u8 1, .int .i64 v, .int .u64 nn, .int .i64 (at_ : Int), .bool ld, .int .u64 sw, .bool false, .int .u64 c, .int .u64 su, .int .i64 le, .int .i64 gr, .slice Ab bu.length cb] 46)).alloc (.cells #[.int .u8 0, .int .i64 0, .int .u64 0, .int .i64 0, .bool false, .int .u64 0, .bool false, .int .u64 0, .int .u64 0, .int .i64 0, .int .i64 0, .slice none 0 0] 46)).alloc (.cells #[.int .u8 0, .int .i64 0, .int .u64 0, .int .u64 0, .bool false] 50)) := by repeat (first | (with_reducible exact Below.refl _ _) | refine Below.alloc ?_ (by simp; try omega) _)
  have HB0 := Lib.hid hb0
  have HA := Lib.hid (hA.on hb0)
  have HBU := Lib.hid (hB.on hb0)
  have HLT := Lib.hid hlt
  have HLB := Lib.hid hlb
  have HL2 : Hid (∀ a, A = some a → a.block < (((((w.alloc (.cells #[.int .i64 l, .int .i64 h, .int .i64 d] 23)).alloc (.cells #[.int .u8 1, .int .i64 v, .int .u64 nn, .int .i64 (at_ : Int), .bool ld, .int .u64 sw, .bool false, .int .u64 c, .int .u64 su, .int .i64 le, .int .i64 gr, .slice Ab bu.length cb] 46)).alloc (.cells #[.int .u8 0, .int .i64 0, .int .u64 0, .int .i64 0, .bool false, .int .u64 0, .bool false, .int .u64 0, .int .u64 0, .int .i64 0, .int .i64 0, .slice none 0 0] 46)).alloc (.cells #[.int .u8 0, .int .i64 0, .int .u64 0, .int .u64 0, .bool false] 50))).heap.size) := Lib.hid (fun a ha => Nat.lt_of_lt_of_le (hlt a ha) hb0.size)
  have HL3 : Hid (∀ a, Ab = some a → a.block < (((((w.alloc (.cells #[.int .i64 l, .int .i64 h, .int .i64 d] 23)).alloc (.cells #[.int .u8 1, .int .i64 v, .int .u64 nn, .int .i64 (at_ : Int), .bool ld, .int .u64 sw, .bool false, .int .u64 c, .int .u64 su, .int .i64 le, .int .i64 gr, .slice Ab bu.length cb] 46)).alloc (.cells #[.int .u8 0, .int .i64 0, .int .u64 0, .int .i64 0, .bool false, .int .u64 0, .bool false, .int .u64 0, .int .u64 0, .int .i64 0, .int .i64 0, .slice none 0 0] 46)).alloc (.cells #[.int .u8 0, .int .i64 0, .int .u64 0, .int .u64 0, .bool false] 50))).heap.size) := Lib.hid (fun a ha => Nat.lt_of_lt_of_le (hlb a ha) hb0.size)
  have HC := Lib.hid hC
  have HR1 : Hid (Row ((((w.alloc (.cells #[.int .i64 l, .int .i64 h, .int .i64 d] 23)).alloc (.cells #[.int .u8 1, .int .i64 v, .int .u64 nn, .int .i64 (at_ : Int), .bool ld, .int .u64 sw, .bool false, .int .u64 c, .int .u64 su, .int .i64 le, .int .i64 gr, .slice Ab bu.length cb] 46)).alloc (.cells #[.int .u8 0, .int .i64 0, .int .u64 0, .int .i64 0, .bool false, .int .u64 0, .bool false, .int .u64 0, .int .u64 0, .int .i64 0, .int .i64 0, .slice none 0 0] 46)).alloc (.cells #[.int .u8 0, .int .i64 0, .int .u64 0, .int .u64 0, .bool false] 50)) (w.heap.size + 1 + 1) 46 [.int .u8 0, .int .i64 0, .int .u64 0, .int .i64 0, .bool false, .int .u64 0, .bool false, .int .u64 0, .int .u64 0, .int .i64 0, .int .i64 0, .slice none 0 0]) := Lib.hid ((Row.at_ (w := (w.alloc _).alloc _) (by simp)).alloc _)
  have HR2 : Hid (Row ((((w.alloc (.cells #[.int .i64 l, .int .i64 h, .int .i64 d] 23)).alloc (.cells #[.int .u8 1, .int .i64 v, .int .u64 nn, .int .i64 (at_ : Int), .bool ld, .int .u64 sw, .bool false, .int .u64 c, .int .u64 su, .int .i64 le, .int .i64 gr, .slice Ab bu.length cb] 46)).alloc (.cells #[.int .u8 0, .int .i64 0, .int .u64 0, .int .i64 0, .bool false, .int .u64 0, .bool false, .int .u64 0, .int .u64 0, .int .i64 0, .int .i64 0, .slice none 0 0] 46)).alloc (.cells #[.int .u8 0, .int .i64 0, .int .u64 0, .int .u64 0, .bool false] 50)) (w.heap.size + 1 + 1 + 1) 50 [.int .u8 0, .int .i64 0, .int .u64 0, .int .u64 0, .bool false]) := Lib.hid (Row.at_ (w := ((w.alloc _).alloc _).alloc _) (by simp))
  clear hA hB hb0 hlt hlb hC ho' hdi
  go_enter Try.func17, Try.ntmps17
  go_wp2_with (go_at_call 42; (with_reducible refine (HC.out _ HA.out HBU.out HL2.out HL3.out).mono ?_); rintro e w3 ⟨sw9, Ab9, cb9, hld, hB9, hBf, A2, n2, he0, he, hf, hb⟩; rw [HST.out, HDI.out] at he0; rw [HST.out] at hld hB9; unfold undU at he0; dsimp only at he0 hld hB9; subst he0; have HE3 := Lib.hid he; have HF3 := Lib.hid hf; have HLD := Lib.hid hld; have HB9 := Lib.hid hB9; have HBF := Lib.hid hBf; have HB3 := Lib.hid (HB0.out.trans (hb.mono HB0.out.size)); have HN := Lib.hid (HR1.out.below hb HR1.out.lt); have HD := Lib.hid (HR2.out.below hb HR2.out.lt); have HS3 : Hid (w.heap.size + 1 + 1 + 1 < w3.heap.size) := Lib.hid HD.out.lt; obtain ⟨n0, n1, n2', n3, n4, n5, n6, n7, n8, n9, na, nb⟩ := HN.out.twelve; obtain ⟨a0, a1, a2, a3, a4⟩ := HD.out.five; have nl := HN.out.lt; have nf := HN.out.free; have al := HD.out.lt; have af := HD.out.free; clear he hf hb hld hB9 hBf)
  refine bodyPost_ret (v := .tuple #[.slice A2 (stepW m ws ⟨1, v, nn, i, at_, ld, saw, false, c, su, le, gr, bu⟩).length n2, .agg #[.int .u8 y0, .int .i64 y1, .int .u64 y2, .int .i64 (y4 : Int), .bool y5, .int .u64 sw9, .bool y7, .int .u64 y8, .int .u64 y9, .int .i64 ya, .int .i64 yb, .slice Ab9 yc.length cb9], .agg #[.int .u8 d0, .int .i64 d1, .int .u64 d2, .int .u64 d3, .bool d4]]) (by simp [results, Try.results17, go_sem, n0, n1, n2', n3, n4, n5, n6, n7, n8, n9, na, nb, a0, a1, a2, a3, a4]) rfl ?_
  unfold DocStep
  rw [HST.out, HDI.out]
  refine ⟨sw9, Ab9, cb9, HLD.out, ?_⟩
  refine doc_close [w.heap.size, w.heap.size + 1, w.heap.size + 1 + 1, w.heap.size + 1 + 1 + 1] HE3.out HF3.out HLT.out HLB.out HB9.out HBF.out HB3.out (by simp; omega) (by intro b hb; simp at hb ⊢; omega) ?_
  repeat (first | (with_reducible exact Part.refl _ _) | (with_reducible refine Part.drew ?_) | (with_reducible refine Part.alloc ?_ _) | refine Part.set ?_ (by simp) _)
theorem dstep_show {v nn saw c su le gr : Int} {i at_ : Nat} {ld : Bool} {bu : List Int} (hA : Ext .u64 w A ws) (hB : Ext .u64 w Ab bu) (hlt : ∀ a, A = some a → a.block < w.heap.size) (hlb : ∀ a, Ab = some a → a.block < w.heap.size)
    (hC : ∀ w1 : World, Ext .u64 w1 A ws → Ext .u64 w1 Ab bu → (∀ a, A = some a → a.block < w1.heap.size) → (∀ a, Ab = some a → a.block < w1.heap.size) → Calls Try.prog 41 #[.slice A ws.length n, .agg #[.int .u8 2, .int .i64 v, .int .u64 nn, .int .i64 (at_ : Int), .bool ld, .int .u64 sw, .bool false, .int .u64 c, .int .u64 su, .int .i64 le, .int .i64 gr, .slice Ab bu.length cb]] w1 (DocStep w1 A Ab m ws ⟨2, v, nn, i, at_, ld, saw, false, c, su, le, gr, bu⟩)) :
    Calls Try.prog 17 #[.agg #[.int .i64 l, .int .i64 h, .int .i64 d], .slice A ws.length n, .agg #[.int .u8 2, .int .i64 v, .int .u64 nn, .int .i64 (at_ : Int), .bool ld, .int .u64 sw, .bool false, .int .u64 c, .int .u64 su, .int .i64 le, .int .i64 gr, .slice Ab bu.length cb]] w (DocStep w A Ab m ws ⟨2, v, nn, i, at_, ld, saw, false, c, su, le, gr, bu⟩) := by
  obtain ⟨o', ho'⟩ : ∃ o', stepH m ws ⟨2, v, nn, i, at_, ld, saw, false, c, su, le, gr, bu⟩ = o' := ⟨_, rfl⟩
  obtain ⟨y0, y1, y2, y3, y4, y5, y6, y7, y8, y9, ya, yb, yc⟩ := o'
  obtain ⟨d0, d1, d2, d3, d4, hdi⟩ := did_five (m := m) (ws := ws) ⟨2, v, nn, i, at_, ld, saw, false, c, su, le, gr, bu⟩
  have HST := Lib.hid ho'
  have HDI := Lib.hid hdi
  have hb0 : Below w.heap.size w ((((w.alloc (.cells #[.int .i64 l, .int .i64 h, .int .i64 d] 23)).alloc (.cells #[.int .u8 2, .int .i64 v, .int .u64 nn, .int .i64 (at_ : Int), .bool ld, .int .u64 sw, .bool false, .int .u64 c, .int .u64 su, .int .i64 le, .int .i64 gr, .slice Ab bu.length cb] 46)).alloc (.cells #[.int .u8 0, .int .i64 0, .int .u64 0, .int .i64 0, .bool false, .int .u64 0, .bool false, .int .u64 0, .int .u64 0, .int .i64 0, .int .i64 0, .slice none 0 0] 46)).alloc (.cells #[.int .u8 0, .int .i64 0, .int .u64 0, .int .u64 0, .bool false] 50)) := by repeat (first | (with_reducible exact Below.refl _ _) | refine Below.alloc ?_ (by simp; try omega) _)
  have HB0 := Lib.hid hb0
  have HA := Lib.hid (hA.on hb0)
  have HBU := Lib.hid (hB.on hb0)
  have HLT := Lib.hid hlt
  have HLB := Lib.hid hlb
  have HL2 : Hid (∀ a, A = some a → a.block < (((((w.alloc (.cells #[.int .i64 l, .int .i64 h, .int .i64 d] 23)).alloc (.cells #[.int .u8 2, .int .i64 v, .int .u64 nn, .int .i64 (at_ : Int), .bool ld, .int .u64 sw, .bool false, .int .u64 c, .int .u64 su, .int .i64 le, .int .i64 gr, .slice Ab bu.length cb] 46)).alloc (.cells #[.int .u8 0, .int .i64 0, .int .u64 0, .int .i64 0, .bool false, .int .u64 0, .bool false, .int .u64 0, .int .u64 0, .int .i64 0, .int .i64 0, .slice none 0 0] 46)).alloc (.cells #[.int .u8 0, .int .i64 0, .int .u64 0, .int .u64 0, .bool false] 50))).heap.size) := Lib.hid (fun a ha => Nat.lt_of_lt_of_le (hlt a ha) hb0.size)
  have HL3 : Hid (∀ a, Ab = some a → a.block < (((((w.alloc (.cells #[.int .i64 l, .int .i64 h, .int .i64 d] 23)).alloc (.cells #[.int .u8 2, .int .i64 v, .int .u64 nn, .int .i64 (at_ : Int), .bool ld, .int .u64 sw, .bool false, .int .u64 c, .int .u64 su, .int .i64 le, .int .i64 gr, .slice Ab bu.length cb] 46)).alloc (.cells #[.int .u8 0, .int .i64 0, .int .u64 0, .int .i64 0, .bool false, .int .u64 0, .bool false, .int .u64 0, .int .u64 0, .int .i64 0, .int .i64 0, .slice none 0 0] 46)).alloc (.cells #[.int .u8 0, .int .i64 0, .int .u64 0, .int .u64 0, .bool false] 50))).heap.size) := Lib.hid (fun a ha => Nat.lt_of_lt_of_le (hlb a ha) hb0.size)
  have HC := Lib.hid hC
  have HR1 : Hid (Row ((((w.alloc (.cells #[.int .i64 l, .int .i64 h, .int .i64 d] 23)).alloc (.cells #[.int .u8 2, .int .i64 v, .int .u64 nn, .int .i64 (at_ : Int), .bool ld, .int .u64 sw, .bool false, .int .u64 c, .int .u64 su, .int .i64 le, .int .i64 gr, .slice Ab bu.length cb] 46)).alloc (.cells #[.int .u8 0, .int .i64 0, .int .u64 0, .int .i64 0, .bool false, .int .u64 0, .bool false, .int .u64 0, .int .u64 0, .int .i64 0, .int .i64 0, .slice none 0 0] 46)).alloc (.cells #[.int .u8 0, .int .i64 0, .int .u64 0, .int .u64 0, .bool false] 50)) (w.heap.size + 1 + 1) 46 [.int .u8 0, .int .i64 0, .int .u64 0, .int .i64 0, .bool false, .int .u64 0, .bool false, .int .u64 0, .int .u64 0, .int .i64 0, .int .i64 0, .slice none 0 0]) := Lib.hid ((Row.at_ (w := (w.alloc _).alloc _) (by simp)).alloc _)
  have HR2 : Hid (Row ((((w.alloc (.cells #[.int .i64 l, .int .i64 h, .int .i64 d] 23)).alloc (.cells #[.int .u8 2, .int .i64 v, .int .u64 nn, .int .i64 (at_ : Int), .bool ld, .int .u64 sw, .bool false, .int .u64 c, .int .u64 su, .int .i64 le, .int .i64 gr, .slice Ab bu.length cb] 46)).alloc (.cells #[.int .u8 0, .int .i64 0, .int .u64 0, .int .i64 0, .bool false, .int .u64 0, .bool false, .int .u64 0, .int .u64 0, .int .i64 0, .int .i64 0, .slice none 0 0] 46)).alloc (.cells #[.int .u8 0, .int .i64 0, .int .u64 0, .int .u64 0, .bool false] 50)) (w.heap.size + 1 + 1 + 1) 50 [.int .u8 0, .int .i64 0, .int .u64 0, .int .u64 0, .bool false]) := Lib.hid (Row.at_ (w := ((w.alloc _).alloc _).alloc _) (by simp))
  clear hA hB hb0 hlt hlb hC ho' hdi
  go_enter Try.func17, Try.ntmps17
  go_wp2_with (go_at_call 41; (with_reducible refine (HC.out _ HA.out HBU.out HL2.out HL3.out).mono ?_); rintro e w3 ⟨sw9, Ab9, cb9, hld, hB9, hBf, A2, n2, he0, he, hf, hb⟩; rw [HST.out, HDI.out] at he0; rw [HST.out] at hld hB9; unfold undU at he0; dsimp only at he0 hld hB9; subst he0; have HE3 := Lib.hid he; have HF3 := Lib.hid hf; have HLD := Lib.hid hld; have HB9 := Lib.hid hB9; have HBF := Lib.hid hBf; have HB3 := Lib.hid (HB0.out.trans (hb.mono HB0.out.size)); have HN := Lib.hid (HR1.out.below hb HR1.out.lt); have HD := Lib.hid (HR2.out.below hb HR2.out.lt); have HS3 : Hid (w.heap.size + 1 + 1 + 1 < w3.heap.size) := Lib.hid HD.out.lt; obtain ⟨n0, n1, n2', n3, n4, n5, n6, n7, n8, n9, na, nb⟩ := HN.out.twelve; obtain ⟨a0, a1, a2, a3, a4⟩ := HD.out.five; have nl := HN.out.lt; have nf := HN.out.free; have al := HD.out.lt; have af := HD.out.free; clear he hf hb hld hB9 hBf)
  refine bodyPost_ret (v := .tuple #[.slice A2 (stepW m ws ⟨2, v, nn, i, at_, ld, saw, false, c, su, le, gr, bu⟩).length n2, .agg #[.int .u8 y0, .int .i64 y1, .int .u64 y2, .int .i64 (y4 : Int), .bool y5, .int .u64 sw9, .bool y7, .int .u64 y8, .int .u64 y9, .int .i64 ya, .int .i64 yb, .slice Ab9 yc.length cb9], .agg #[.int .u8 d0, .int .i64 d1, .int .u64 d2, .int .u64 d3, .bool d4]]) (by simp [results, Try.results17, go_sem, n0, n1, n2', n3, n4, n5, n6, n7, n8, n9, na, nb, a0, a1, a2, a3, a4]) rfl ?_
  unfold DocStep
  rw [HST.out, HDI.out]
  refine ⟨sw9, Ab9, cb9, HLD.out, ?_⟩
  refine doc_close [w.heap.size, w.heap.size + 1, w.heap.size + 1 + 1, w.heap.size + 1 + 1 + 1] HE3.out HF3.out HLT.out HLB.out HB9.out HBF.out HB3.out (by simp; omega) (by intro b hb; simp at hb ⊢; omega) ?_
  repeat (first | (with_reducible exact Part.refl _ _) | (with_reducible refine Part.drew ?_) | (with_reducible refine Part.alloc ?_ _) | refine Part.set ?_ (by simp) _)
theorem dstep_op (o : OpH) (r : Sc.rightB l h d = true) (hA : Ext .u64 w A ws) (hB : Ext .u64 w Ab o.bu) (hlt : ∀ a, A = some a → a.block < w.heap.size) (hlb : ∀ a, Ab = some a → a.block < w.heap.size) (hl : ws.length = m + 4) (hf : m ≤ 65532) (h0 : 0 < m) (hm : m = Sc.cnt l h d) (hW : WfH m o) (hF : FixH l h d o) (he : o.en = false) (hs : o.ld = true → sw = o.saw) :
    Calls Try.prog 17 #[.agg #[.int .i64 l, .int .i64 h, .int .i64 d], .slice A ws.length n, .agg (undU o sw Ab cb)] w (DocStep w A Ab m ws o) := by
  rcases hW with ⟨hk, _, h4⟩ | ⟨hk, hld, h4⟩
  · obtain ⟨a1, a2⟩ := h4 he
    obtain ⟨f1, f2, f3⟩ := hF.2 hk
    obtain ⟨k, v, nn, i, at_, ld, saw, en, c, su, le, gr, bu⟩ := o
    dsimp only at hk he hB
    subst hk he
    exact dstep_rec hA hB hlt hlb (fun w1 b1 b2 b3 _ => drec_any _ r b1 b2 b3 hl hf hm rfl rfl ⟨f1, f2⟩ f3 a1 a2 hs)
  · obtain ⟨k, v, nn, i, at_, ld, saw, en, c, su, le, gr, bu⟩ := o
    dsimp only at hk he hB hld h4
    subst hk he
    have h5 : (bu = [] ∧ at_ ≤ 3) ∨ (at_ = 4 + bu.length ∧ bu.length < m) := by
      rcases h4 with ⟨_, a, b⟩ | ⟨a, ⟨_, b⟩ | ⟨b, _⟩⟩
      · exact .inl ⟨a, b⟩
      · exact .inr ⟨a, b⟩
      · cases b
    exact dstep_show hA hB hlt hlb (fun w1 b1 b2 b3 b4 => dshow_any _ r b1 b2 b3 b4 hl hf h0 rfl rfl hld h5)
/-- what a step of the document leaves, all that it answers said outright -/
def DocLeft (w : World) (A : Option Addr) (ws' : List Int) (s : DocD) (o' : OpH) (last : Bool) (d0 d1 d2 d3 : Int) (d4 : Bool) (e : Ending) (w' : World) : Prop :=
  ∃ (s' : DocD) (A' : Option Addr) (n' : Nat), e = .returned (.tuple #[.slice A' ws'.length n', .agg #[.int .u8 o'.k, .int .i64 o'.v, .int .u64 o'.n, .int .i64 (o'.at_ : Int), .bool o'.ld, .int .u64 s'.1, .bool last, .int .u64 o'.c, .int .u64 o'.su, .int .i64 o'.le, .int .i64 o'.gr, .slice s'.2.1 o'.bu.length s'.2.2], .agg #[.int .u8 d0, .int .i64 d1, .int .u64 d2, .int .u64 d3, .bool d4]]) ∧ Ext .u64 w' A' ws' ∧ (A' = A ∨ ∀ a, A' = some a → w.heap.size ≤ a.block ∧ a.block < w'.heap.size) ∧ Ext .u64 w' s'.2.1 o'.bu ∧ (s'.2.1 = s.2.1 ∨ ∀ a, s'.2.1 = some a → w.heap.size ≤ a.block ∧ a.block < w'.heap.size) ∧ (o'.ld = true → s'.1 = o'.saw) ∧ Below w.heap.size w w'
theorem dstep_at {o o' : OpH} {s : DocD} {ws' : List Int} {f6 last d4 : Bool} {d0 d1 d2 d3 : Int} (r : Sc.rightB l h d = true) (hA : Ext .u64 w A ws) (hB : Ext .u64 w s.2.1 o.bu) (hlt : ∀ a, A = some a → a.block < w.heap.size) (hlb : ∀ a, s.2.1 = some a → a.block < w.heap.size) (hl : ws.length = m + 4) (hf : m ≤ 65532) (h0 : 0 < m) (hm : m = Sc.cnt l h d) (hW : WfH m o) (hF : FixH l h d o) (he : o.en = false) (hs : o.ld = true → s.1 = o.saw)
    (g6 : o.en = f6) (hT : stepW m ws o = ws') (ho' : stepH m ws o = o') (hd : didH m ws o = #[.int .u8 d0, .int .i64 d1, .int .u64 d2, .int .u64 d3, .bool d4]) (hl6 : o'.en = last) :
    Calls Try.prog 17 #[.agg #[.int .i64 l, .int .i64 h, .int .i64 d], .slice A ws.length n, .agg #[.int .u8 o.k, .int .i64 o.v, .int .u64 o.n, .int .i64 (o.at_ : Int), .bool o.ld, .int .u64 s.1, .bool f6, .int .u64 o.c, .int .u64 o.su, .int .i64 o.le, .int .i64 o.gr, .slice s.2.1 o.bu.length s.2.2]] w (DocLeft w A ws' s o' last d0 d1 d2 d3 d4) := by
  subst g6 hT ho' hl6
  refine (dstep_op (sw := s.1) (Ab := s.2.1) (cb := s.2.2) o r hA hB hlt hlb hl hf h0 hm hW hF he hs).mono ?_
  rintro e w' ⟨sw', Ab', cb', h1, h2, h3, A', n', h4, h5, h6, h7⟩
  exact ⟨(sw', Ab', cb'), A', n', by rw [h4, hd]; rfl, h5, h6, h2, h3, h1, h7⟩
end
end Go.Proofs.Ytiifhkfkcljoiaa

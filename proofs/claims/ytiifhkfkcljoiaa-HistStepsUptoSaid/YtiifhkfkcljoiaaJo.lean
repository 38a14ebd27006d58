/- THE WALKS of package hist: the document's show: a bucket. -/
import Derived.Test.YtiifhkfkcljoiaaJn
import Derived.Deep.RegionLaw
import Derived.Deep.AppendLies
import Derived.Laws.MakeOwn
namespace Go.Proofs.Ytiifhkfkcljoiaa
open Go Go.RowKit
set_option maxRecDepth 100000
theorem ext_length {bu : List Int} {saw : Int} : bu.length + 1 = (bu ++ [saw]).length := by simp
theorem infoU8 : (Try.prog.info? 38).map (fun i => (i.zero, i.size, i.bytes)) = some (some (.int .u64 0), 1, 8) := by kernel_rfl
theorem u64s_snoc9 (l : List Int) (x : Int) : u64s l ++ [.int .u64 x] = u64s (l ++ [x]) := by simp [u64s]
theorem own_from9 {w : World} {base size n : Nat} {e : TypeId} {v : Value} {xs : List Value} (h : w.ownsRow base e size v n xs) : ∀ q, v.ownBlock = some q → base ≤ q := fun q hq => by
  rcases h.2 with ⟨hv, _⟩ | ⟨g', _, cur, hv, hb, hh, _⟩
  · subst hv; cases hq
  · subst hv; cases hq; exact hb
theorem own_far9 {w : World} {base c g size n b k : Nat} {e : TypeId} {xs : List Value} (h : w.ownsRow base e size (.slice (some ⟨g, 0, none⟩) n c) n xs) (hne : b ≠ g) (v : Value) : (w.setCell ⟨b, k, none⟩ v).ownsRow base e size (.slice (some ⟨g, 0, none⟩) n c) n xs :=
  own_part h ((Part.refl [b] w).set (by simp) v) (fun q hq => by cases hq; simp; omega)
theorem bucket_close {w w0 w6 wf : World} {A A2 : Option Addr} {n2 g5 c5 base : Nat} {ws2 bu : List Int} {saw : Int} {u d : Array Value} (S : List Nat) (ho : w6.ownsRow base 38 1 (.slice (some ⟨g5, 0, none⟩) (bu.length + 1) c5) (bu.length + 1) (u64s (bu ++ [saw]))) (hg : w0.heap.size ≤ g5) (he : Ext .u64 w6 A2 ws2) (hf : A2 = A ∨ ∀ a, A2 = some a → w0.heap.size ≤ a.block ∧ a.block < w6.heap.size) (hlt : ∀ a, A = some a → a.block < w.heap.size) (hb : Below w.heap.size w w6) (h0 : w.heap.size ≤ w0.heap.size) (hS : ∀ b ∈ S, w.heap.size ≤ b ∧ b < w0.heap.size) (hP : Part S w6 wf) :
    Ext .u64 wf (some ⟨g5, 0, none⟩) (bu ++ [saw]) ∧ w.heap.size ≤ g5 ∧ g5 < wf.heap.size ∧ DocTo w A ws2 u d (.returned (.tuple #[.slice A2 ws2.length n2, .agg u, .agg d])) wf := by
  have h1 := own_part ho hP (fun q hq hm => by cases hq; have := hS g5 hm; omega)
  rw [ext_length (saw := saw)] at h1
  obtain ⟨g', c', e, _, hlt'⟩ := own_some h1 (by simp)
  cases e
  exact ⟨own_ext h1, by omega, hlt', doc_end S he hf hlt hb h0 (fun b hb => .inl (hS b hb)) hP⟩
set_option maxHeartbeats 3200000
section
variable {w : World} {A Ab : Option Addr} {n cb m : Nat} {ws bu : List Int} {at9 saw k v nn sw uc us ul ug : Int}
theorem dshow_bucket (hA : Ext .u64 w A ws) (hlt : ∀ a, A = some a → a.block < w.heap.size) (hB : Ext .u64 w Ab bu) (hl : ws.length = m + 4) (hf : m ≤ 65532) (hb : bu.length < m) (hat : at9 = 4 + (bu.length : Int)) (hx : ws[bu.length]? = some saw) : Calls Try.prog 41 #[.slice A ws.length n, .agg #[.int .u8 k, .int .i64 v, .int .u64 nn, .int .i64 at9, .bool false, .int .u64 sw, .bool false, .int .u64 uc, .int .u64 us, .int .i64 ul, .int .i64 ug, .slice Ab bu.length cb]] w fun e w' => ∃ g5 c5, Ext .u64 w' (some ⟨g5, 0, none⟩) (bu ++ [saw]) ∧ w.heap.size ≤ g5 ∧ g5 < w'.heap.size ∧ DocTo w A ws #[.int .u8 k, .int .i64 v, .int .u64 nn, .int .i64 (at9 + 1), .bool false, .int .u64 sw, .bool (decide (bu.length + 1 = m)), .int .u64 uc, .int .u64 us, .int .i64 ul, .int .i64 ug, .slice (some ⟨g5, 0, none⟩) (bu.length + 1) c5] #[.int .u8 1, .int .i64 (bu.length : Int), .int .u64 saw, .int .u64 saw, .bool true] e w' := by
  obtain ⟨i0, hi, hz0, hz1, hz2⟩ := info_parts infoU8
  have hb0 : Below w.heap.size w ((((w.alloc (.cells #[.int .u8 k, .int .i64 v, .int .u64 nn, .int .i64 at9, .bool false, .int .u64 sw, .bool false, .int .u64 uc, .int .u64 us, .int .i64 ul, .int .i64 ug, .slice Ab bu.length cb] 46)).alloc (.cells #[.int .u8 0, .int .i64 0, .int .u64 0, .int .i64 0, .bool false, .int .u64 0, .bool false, .int .u64 0, .int .u64 0, .int .i64 0, .int .i64 0, .slice none 0 0] 46)).alloc (.cells #[.int .u8 0, .int .i64 0, .int .u64 0, .int .u64 0, .bool false] 50)).alloc (.cells #[.int .i64 ((m : Int) + 3), .int .i64 ((m : Int) + 1), .int .i64 ((m : Int) + 2), .int .i64 (m : Int)] 3)) := by repeat (first | (with_reducible exact Below.refl _ _) | refine Below.alloc ?_ (by simp; try omega) _)
  have HB0 := Lib.hid hb0
  have HA := Lib.hid (hA.on hb0)
  have HBU := Lib.hid (hB.on hb0)
  have HLT := Lib.hid hlt
  have HL := Lib.hid hl
  have HX := Lib.hid hx
  have HR0 : Hid (Row ((((w.alloc (.cells #[.int .u8 k, .int .i64 v, .int .u64 nn, .int .i64 at9, .bool false, .int .u64 sw, .bool false, .int .u64 uc, .int .u64 us, .int .i64 ul, .int .i64 ug, .slice Ab bu.length cb] 46)).alloc (.cells #[.int .u8 0, .int .i64 0, .int .u64 0, .int .i64 0, .bool false, .int .u64 0, .bool false, .int .u64 0, .int .u64 0, .int .i64 0, .int .i64 0, .slice none 0 0] 46)).alloc (.cells #[.int .u8 0, .int .i64 0, .int .u64 0, .int .u64 0, .bool false] 50)).alloc (.cells #[.int .i64 ((m : Int) + 3), .int .i64 ((m : Int) + 1), .int .i64 ((m : Int) + 2), .int .i64 (m : Int)] 3)) w.heap.size 46 [.int .u8 k, .int .i64 v, .int .u64 nn, .int .i64 at9, .bool false, .int .u64 sw, .bool false, .int .u64 uc, .int .u64 us, .int .i64 ul, .int .i64 ug, .slice Ab bu.length cb]) := Lib.hid ((((Row.new w _ _).alloc _).alloc _).alloc _)
  have HR1 : Hid (Row ((((w.alloc (.cells #[.int .u8 k, .int .i64 v, .int .u64 nn, .int .i64 at9, .bool false, .int .u64 sw, .bool false, .int .u64 uc, .int .u64 us, .int .i64 ul, .int .i64 ug, .slice Ab bu.length cb] 46)).alloc (.cells #[.int .u8 0, .int .i64 0, .int .u64 0, .int .i64 0, .bool false, .int .u64 0, .bool false, .int .u64 0, .int .u64 0, .int .i64 0, .int .i64 0, .slice none 0 0] 46)).alloc (.cells #[.int .u8 0, .int .i64 0, .int .u64 0, .int .u64 0, .bool false] 50)).alloc (.cells #[.int .i64 ((m : Int) + 3), .int .i64 ((m : Int) + 1), .int .i64 ((m : Int) + 2), .int .i64 (m : Int)] 3)) (w.heap.size + 1) 46 [.int .u8 0, .int .i64 0, .int .u64 0, .int .i64 0, .bool false, .int .u64 0, .bool false, .int .u64 0, .int .u64 0, .int .i64 0, .int .i64 0, .slice none 0 0]) := Lib.hid (((Row.at_ (w := w.alloc _) (by simp)).alloc _).alloc _)
  have HR2 : Hid (Row ((((w.alloc (.cells #[.int .u8 k, .int .i64 v, .int .u64 nn, .int .i64 at9, .bool false, .int .u64 sw, .bool false, .int .u64 uc, .int .u64 us, .int .i64 ul, .int .i64 ug, .slice Ab bu.length cb] 46)).alloc (.cells #[.int .u8 0, .int .i64 0, .int .u64 0, .int .i64 0, .bool false, .int .u64 0, .bool false, .int .u64 0, .int .u64 0, .int .i64 0, .int .i64 0, .slice none 0 0] 46)).alloc (.cells #[.int .u8 0, .int .i64 0, .int .u64 0, .int .u64 0, .bool false] 50)).alloc (.cells #[.int .i64 ((m : Int) + 3), .int .i64 ((m : Int) + 1), .int .i64 ((m : Int) + 2), .int .i64 (m : Int)] 3)) (w.heap.size + 1 + 1) 50 [.int .u8 0, .int .i64 0, .int .u64 0, .int .u64 0, .bool false]) := Lib.hid ((Row.at_ (w := (w.alloc _).alloc _) (by simp)).alloc _)
  have wm : IntKind.i64.wrap ((ws.length : Int) - 4) = (m : Int) := by rw [IntKind.wrap_i64]; omega
  have w1m : IntKind.i64.wrap ((m : Int) + 1) = (m : Int) + 1 := by rw [IntKind.wrap_i64]; omega
  have w2m : IntKind.i64.wrap ((m : Int) + 2) = (m : Int) + 2 := by rw [IntKind.wrap_i64]; omega
  have w3m : IntKind.i64.wrap ((m : Int) + 3) = (m : Int) + 3 := by rw [IntKind.wrap_i64]; omega
  have w4m : IntKind.i64.wrap ((m : Int) + 4) = (m : Int) + 4 := by rw [IntKind.wrap_i64]; omega
  have wb : IntKind.i64.wrap (at9 - 4) = (bu.length : Int) := by rw [IntKind.wrap_i64]; omega
  have wb2 : wrap64 (at9 + 1) = at9 + 1 := by unfold wrap64; omega
  have hge : (4 : Int) ≤ at9 := by omega
  have c0 : (at9 == 0) = false := by rw [beq_eq_false_iff_ne]; omega
  have c1 : (at9 == 1) = false := by rw [beq_eq_false_iff_ne]; omega
  have c2 : (at9 == 2) = false := by rw [beq_eq_false_iff_ne]; omega
  have c3 : (at9 == 3) = false := by rw [beq_eq_false_iff_ne]; omega
  have HEN : Hid ((at9 + 1 == (m : Int) + 4) = decide (bu.length + 1 = m)) := Lib.hid (by by_cases q : bu.length + 1 = m <;> (first | (rw [decide_eq_true q, beq_iff_eq]; omega) | (rw [decide_eq_false q, beq_eq_false_iff_ne]; omega)))
  have HBL : Hid (bu.length ≤ 17592186044416) := Lib.hid (by omega)
  have H3 : Hid (bu.length + 1 ≤ maxLen) := Lib.hid (by unfold maxLen; omega)
  have H4 : Hid ((bu.length + 1) * 8 ≤ 140737488355328) := Lib.hid (by omega)
  have hbl : bu.length ≤ 65532 := by omega
  clear hA hb0 hx hlt hl hB hat hb
  go_enter Try.func41, Try.ntmps41
  go_wp2_with (go_at_call 70; (with_reducible refine (dact_load (i := bu.length) (n := n) (old := 0) (x := 0) HA.out (by have := HL.out; omega) HX.out).mono ?_); rintro e w3 ⟨A2, n2, rfl, he, hf, hb⟩; have HE3 := Lib.hid he; have HF3 := Lib.hid hf; have HBU3 := Lib.hid (HBU.out.on hb); have HB3 := Lib.hid (HB0.out.trans (hb.mono HB0.out.size)); have HU := Lib.hid (HR0.out.below hb HR0.out.lt); have HN := Lib.hid (HR1.out.below hb HR1.out.lt); have HD := Lib.hid (HR2.out.below hb HR2.out.lt); have HS3 : Hid (w.heap.size + 1 + 1 + 1 < w3.heap.size) := Lib.hid (by have := hb.size; simp at this; omega); obtain ⟨u0, u1, u2, u3, u4, u5, u6, u7, u8, u9, ua, ub⟩ := HU.out.twelve; have vl := HU.out.lt; have vf := HU.out.free; clear he hf hb; have m0 : ¬ w3.heap.size = w.heap.size := (by have := HS3.out; omega); have m1 : ¬ w3.heap.size = w.heap.size + 1 := (by have := HS3.out; omega); have m2 : ¬ w3.heap.size = w.heap.size + 1 + 1 := (by have := HS3.out; omega))
  go_upto_region 8 with fail
  obtain ⟨wc, hwc⟩ : ∃ wc, w3.alloc (.cells #[.int .u8 1, .int .i64 (bu.length : Int), .int .u64 saw, .int .u64 saw, .bool true] 50) = wc := ⟨_, rfl⟩
  obtain ⟨b3, hb3⟩ : ∃ b3, w3.heap.size = b3 := ⟨_, rfl⟩
  have HW : Hid (wc.heap.size = b3 + 1) := Lib.hid (by rw [← hwc, ← hb3]; simp)
  have RU : Hid (Row wc w.heap.size 46 [.int .u8 k, .int .i64 v, .int .u64 nn, .int .i64 at9, .bool false, .int .u64 sw, .bool false, .int .u64 uc, .int .u64 us, .int .i64 ul, .int .i64 ug, .slice Ab bu.length cb]) := Lib.hid (by rw [← hwc]; exact HU.out.alloc _)
  have RN : Hid (Row wc (w.heap.size + 1) 46 [.int .u8 0, .int .i64 0, .int .u64 0, .int .i64 0, .bool false, .int .u64 0, .bool false, .int .u64 0, .int .u64 0, .int .i64 0, .int .i64 0, .slice none 0 0]) := Lib.hid (by rw [← hwc]; exact HN.out.alloc _)
  have RD : Hid (Row wc (w.heap.size + 1 + 1) 50 [.int .u8 0, .int .i64 0, .int .u64 0, .int .u64 0, .bool false]) := Lib.hid (by rw [← hwc]; exact HD.out.alloc _)
  have RE : Hid (Row wc b3 50 [.int .u8 1, .int .i64 (bu.length : Int), .int .u64 saw, .int .u64 saw, .bool true]) := Lib.hid (by rw [← hwc, ← hb3]; exact Row.new w3 _ _)
  have HEc : Hid (Ext .u64 wc A2 ws) := Lib.hid (by rw [← hwc]; exact HE3.out.on ((Below.refl _ _).alloc (Nat.le_refl _) _))
  have HBc : Hid (Ext .u64 wc Ab bu) := Lib.hid (by rw [← hwc]; exact HBU3.out.on ((Below.refl _ _).alloc (Nat.le_refl _) _))
  have HLc : Hid (Below w.heap.size w wc) := Lib.hid (by rw [← hwc]; exact HB3.out.alloc HB3.out.size _)
  have HFc : Hid (A2 = A ∨ ∀ a, A2 = some a → (((((w.alloc (.cells #[.int .u8 k, .int .i64 v, .int .u64 nn, .int .i64 at9, .bool false, .int .u64 sw, .bool false, .int .u64 uc, .int .u64 us, .int .i64 ul, .int .i64 ug, .slice Ab bu.length cb] 46)).alloc (.cells #[.int .u8 0, .int .i64 0, .int .u64 0, .int .i64 0, .bool false, .int .u64 0, .bool false, .int .u64 0, .int .u64 0, .int .i64 0, .int .i64 0, .slice none 0 0] 46)).alloc (.cells #[.int .u8 0, .int .i64 0, .int .u64 0, .int .u64 0, .bool false] 50)).alloc (.cells #[.int .i64 ((m : Int) + 3), .int .i64 ((m : Int) + 1), .int .i64 ((m : Int) + 2), .int .i64 (m : Int)] 3))).heap.size ≤ a.block ∧ a.block < wc.heap.size) := Lib.hid (HF3.out.imp id (fun f a ha => ⟨(f a ha).1, by have := (f a ha).2; rw [← hwc]; simp; omega⟩))
  have HS3c : Hid (w.heap.size + 1 + 1 + 1 < b3) := Lib.hid (by rw [← hb3]; exact HS3.out)
  rw [hwc, hb3]
  rw [hb3] at m0 m1 m2
  clear hwc hb3 u0 u1 u2 u3 u4 u5 u6 u7 u8 u9 ua ub vl vf HE3 HF3 HBU3 HB3 HU HN HD HS3 HA HBU HB0 HR0 HR1 HR2
  obtain ⟨u0, u1, u2, u3, u4, u5, u6, u7, u8, u9, ua, ub⟩ := RU.out.twelve
  obtain ⟨d0, d1, d2, d3, d4⟩ := RE.out.five
  have ult := RU.out.lt
  have dlt := RE.out.lt
  have uf := RU.out.free
  have hwl : w.heap.size ≤ wc.heap.size := HLc.out.size
  have hu3 : ¬ w.heap.size = b3 := by have := HS3c.out; omega
  have HLC : Hid (Ext .u64 wc.drew Ab bu) := Lib.hid (HBc.out.on (Below.refl _ _).drew)
  have HLD : Hid (∀ o, Ext .u64 (wc.alloc o).drew Ab bu) := Lib.hid (fun o => HBc.out.on (((Below.refl _ _).alloc (Nat.le_refl _) o).drew))
  have HZ : Hid (Row ((wc.alloc (.cells #[.int .u64 saw] 38)).drew) wc.heap.size 38 [.int .u64 saw]) := Lib.hid (Row.new wc 38 [.int .u64 saw])
  go_region_law
    (first
    | ((refine step_append_lies _ (by rfl) _ _ _ (by rfl) w.heap.size 38 i0 _ 1 8 Try.underlying42 hi hz0 hz1 hz2 rfl (by omega) _ bu.length (u64s bu) (by rfl) (HO.out.alloc _) ⟨w1.heap.size, 0, none⟩ 1 1 [.int .u64 saw] (by rfl) (by rfl) (World.news_of_block (cs := #[.int .u64 saw]) (t := 38) (fr := (0, 0)) (heap_alloc_new w1 _)) (by simp [Value.oneCell']) (by omega) H3.out H4.out (by have := HC.out.size; simp; omega) (w1.heap.size + 1) (by simp) ?_; intro g5 c5 w6 hown6 hgr6 hat6 _; rw [u64s_snoc9] at hown6; have HE := Lib.hid (((HC.out.alloc HC.out.size _).grown hgr6 (by have := HC.out.size; simp; omega) (own_from HOW.out))); have HO6 := Lib.hid hown6; have HAT : Hid (wc.heap.size ≤ g5) := Lib.hid (hat6.elim (fun e => own_from HOW.out _ e) (fun e => by have := HC.out.size; omega)); have R6 := Lib.hid (RU.out.below HE.out RU.out.lt); have f2 : w6.cell? ⟨b3, 2, none⟩ = some (.int .u64 saw) := (RE.out.below HE.out RE.out.lt).cell 2; have y11 : w6.cell? ⟨w.heap.size, 11, none⟩ = some (.slice Ab bu.length cb) := R6.out.cell 11; have yf := R6.out.free; have yl := R6.out.lt; clear hown6 hgr6 hat6))
    | ((refine step_append_lies _ (by rfl) _ _ _ (by rfl) w.heap.size 38 i0 _ 1 8 Try.underlying42 hi hz0 hz1 hz2 rfl (by omega) _ bu.length (u64s bu) (by rfl) HO.out ⟨wc.heap.size, 0, none⟩ 1 1 [.int .u64 saw] (by rfl) (by rfl) (World.news_of_block (cs := #[.int .u64 saw]) (t := 38) (fr := (0, 0)) HZ1.out) (by simp [Value.oneCell']) (by omega) H3.out H4.out (by have := HD.out.size; simp at this ⊢; omega) w1.heap.size rfl ?_; intro g5 c5 w6 hown6 hgr6 hat6 _; rw [u64s_snoc9] at hown6; have HE := Lib.hid ((HD.out.grown hgr6 (by have := HD.out.size; omega) (fun q e => by have := own_from HOW.out q e; simp at this; omega))); have HO6 := Lib.hid hown6; have HAT : Hid (wc.heap.size ≤ g5) := Lib.hid (hat6.elim (fun e => by have := own_from HOW.out _ e; simp at this; omega) (fun e => by have := HD.out.size; omega)); have R6 := Lib.hid (RU.out.below HE.out RU.out.lt); have f2 : w6.cell? ⟨b3, 2, none⟩ = some (.int .u64 saw) := (RE.out.below HE.out RE.out.lt).cell 2; have y11 : w6.cell? ⟨w.heap.size, 11, none⟩ = some (.slice Ab bu.length cb) := R6.out.cell 11; have yf := R6.out.free; have yl := R6.out.lt; clear hown6 hgr6 hat6))
    | (go_simp; go_at_call 45; (with_reducible refine (copy_any HLC.out HBL.out).mono ?_); rintro e w1 ⟨Av, cv, rfl, hown, hb1⟩; have HC : Hid (Below wc.heap.size wc w1) := Lib.hid ((Below.refl _ wc).drew.trans hb1); have HOW := Lib.hid hown; have HO := Lib.hid (ownsRow_base hown hwl); have f2 : w1.cell? ⟨b3, 2, none⟩ = some (.int .u64 saw) := (RE.out.below HC.out RE.out.lt).cell 2; have w1lt := HC.out.size; clear hb1 hown)
    | (go_simp; go_at_call 45; (with_reducible refine (copy_any (HLD.out _) HBL.out).mono ?_); rintro e w1 ⟨Av, cv, rfl, hown, hb1⟩; have HD : Hid (Below wc.heap.size wc w1) := Lib.hid ((((Below.refl _ wc).alloc (Nat.le_refl _) _).drew).trans (hb1.mono (by simp))); have HOW := Lib.hid hown; have HO := Lib.hid (ownsRow_base hown (Nat.le_trans hwl (by simp))); have HZ1 := Lib.hid (HZ.out.below hb1 HZ.out.lt); have f2 : w1.cell? ⟨b3, 2, none⟩ = some (.int .u64 saw) := (RE.out.below HD.out RE.out.lt).cell 2; have w1lt := HD.out.size; clear hb1 hown))
  all_goals
    obtain ⟨u0, u1, u2, u3, u4, u5, u6, u7, u8, u9, ua, ub⟩ := R6.out.twelve
    have QN := RN.out.below HE.out RN.out.lt
    have QD := RD.out.below HE.out RD.out.lt
    have QE := RE.out.below HE.out RE.out.lt
    obtain ⟨n0, n1, n2', n3, n4, n5, n6, n7, n8, n9, na, nb⟩ := QN.twelve
    obtain ⟨a0, a1, a2, a3, a4⟩ := QD.five
    obtain ⟨e0, e1, e2, e3, e4⟩ := QE.five
    have nl := QN.lt
    have nf := QN.free
    have al := QD.lt
    have af := QD.free
    have el := QE.lt
    clear QN QD QE
    go_wp2
    go_region
    all_goals
      go_wp2
      refine bodyPost_ret (v := .tuple #[.slice A2 ws.length n2, .agg #[.int .u8 k, .int .i64 v, .int .u64 nn, .int .i64 (at9 + 1), .bool false, .int .u64 sw, .bool (decide (bu.length + 1 = m)), .int .u64 uc, .int .u64 us, .int .i64 ul, .int .i64 ug, .slice (some ⟨g5, 0, none⟩) (bu.length + 1) c5], .agg #[.int .u8 1, .int .i64 (bu.length : Int), .int .u64 saw, .int .u64 saw, .bool true]]) (by simp [results, Try.results41, go_sem, n0, n1, n2', n3, n4, n5, n6, n7, n8, n9, na, nb, a0, a1, a2, a3, a4, HEN.out]) rfl ?_
      refine ⟨g5, c5, ?_⟩
      refine bucket_close (w0 := ((((w.alloc (.cells #[.int .u8 k, .int .i64 v, .int .u64 nn, .int .i64 at9, .bool false, .int .u64 sw, .bool false, .int .u64 uc, .int .u64 us, .int .i64 ul, .int .i64 ug, .slice Ab bu.length cb] 46)).alloc (.cells #[.int .u8 0, .int .i64 0, .int .u64 0, .int .i64 0, .bool false, .int .u64 0, .bool false, .int .u64 0, .int .u64 0, .int .i64 0, .int .i64 0, .slice none 0 0] 46)).alloc (.cells #[.int .u8 0, .int .i64 0, .int .u64 0, .int .u64 0, .bool false] 50)).alloc (.cells #[.int .i64 ((m : Int) + 3), .int .i64 ((m : Int) + 1), .int .i64 ((m : Int) + 2), .int .i64 (m : Int)] 3))) [w.heap.size, w.heap.size + 1, w.heap.size + 1 + 1] HO6.out (by have := HAT.out; have := HW.out; have := HS3c.out; simp; omega) (HEc.out.on HE.out) (HFc.out.imp id (fun f a ha => ⟨(f a ha).1, Nat.lt_of_lt_of_le (f a ha).2 HE.out.size⟩)) HLT.out (HLc.out.trans (HE.out.mono HLc.out.size)) (by simp; omega) (by intro b hb; simp at hb ⊢; omega) ?_
      repeat (first | (with_reducible exact Part.refl _ _) | (with_reducible refine Part.drew ?_) | (with_reducible refine Part.alloc ?_ _) | refine Part.set ?_ (by simp) _)
end
end Go.Proofs.Ytiifhkfkcljoiaa

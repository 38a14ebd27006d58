/- THE WALKS of package hist: New; a list copied; Answer. -/
import Derived.Test.YtiifhkfkcljoiaaIk
import Derived.Deep.RegionLaw
import Derived.Deep.AppendLies
import Derived.Laws.MakeOwn
import Derived.Test.YtiifhkfkcljoiaaWe
import Derived.Test.YtiifhkfkcljoiaaCc
import Derived.Test.YtiifhkfkcljoiaaOw
namespace Go.Proofs.Ytiifhkfkcljoiaa
open Go Go.RowKit
set_option maxRecDepth 100000
set_option maxHeartbeats 1600000
theorem word_store {a : Addr} {x y : Int} {w : World} (hc : w.cell? a = some (.int .u64 x)) (hz : w.frozen? a = false) :
    Calls Try.prog 54 #[.pointer (some a), .int .u64 y] w fun e w' => e = .returned (.tuple #[]) ∧ w.setCell a (.int .u64 y) = w' := by
  have hl := run_call_store (P := Try.prog) (y := y) (k := .u64) Try.func80 (by kernel_rfl) (by kernel_rfl) (by kernel_rfl) (by kernel_rfl) hc hz
  go_enter Try.func54, Try.ntmps54
  go_wp2
  go_end0
  exact ⟨rfl, rfl⟩
theorem cells_store {w : World} {bk bw : Nat} {ws : List Int} (h : Words w bk bw ws) {i : Nat} {c y : Int} (hc : c = (i : Int)) (hi : i < ws.length) (hy : U64 y) :
    Calls Try.prog 37 #[.pointer (some ⟨bk, 0, none⟩), .int .i64 c, .int .u64 y] w fun e w' => e = .returned (.tuple #[]) ∧ Words w' bk bw (ws.set i y) ∧ Part [bw] w w' := by
  subst hc
  obtain ⟨x, hx⟩ : ∃ x, ws[i]? = some x := ⟨_, List.getElem?_eq_getElem hi⟩
  have hcell := h.word hx
  have hfr := h.row.free i
  have hh := h.hc
  have hi2 : (i : Int) < (ws.length : Int) := by omega
  have hfew := h.few
  have H := Lib.hid h
  have HY := Lib.hid hy
  clear h hy hx
  go_enter Try.func37, Try.ntmps37
  go_wp2_with (first
    | (go_at_call 53; refine (has_yes H.out hi).mono ?_; rintro e wx ⟨rfl, rfl⟩)
    | (go_at_call 54; refine (word_store hcell hfr).mono ?_; rintro e wx ⟨rfl, rfl⟩))
  go_end0
  exact ⟨rfl, H.out.set _ HY.out, (Part.refl _ w).set (by simp) _⟩
/-- how many buckets there may be -/
theorem cnt_few {l h d : Int} (r : Sc.rightB l h d = true) : 3 ≤ Sc.cnt l h d ∧ Sc.cnt l h d + 4 ≤ 65536 := by
  obtain ⟨a1, a2, a3, a4, a5, a6⟩ := Sc.right_of r
  have hn : h.toNat < 2 ^ 62 := by omega
  have hhalf : Sc.hOf d = 4 ∨ Sc.hOf d = 7 ∨ Sc.hOf d = 10 := by unfold Sc.hOf; split; (exact .inl rfl); split; (exact .inr (.inl rfl)); exact .inr (.inr rfl)
  unfold Sc.cnt Sc.SC.idx
  obtain ⟨u, hu⟩ : ∃ u, h.toNat / 2 ^ (Sc.eOf l) = u := ⟨_, rfl⟩
  rw [hu]
  have hu62 : u < 2 ^ 62 := by rw [← hu]; exact Nat.lt_of_le_of_lt (Nat.div_le_self _ _) hn
  have hb := Lib.bitLen_le u 62 (by omega) hu62
  have hu2 : 2 ≤ u := by
    rw [← hu, Nat.le_div_iff_mul_le (Nat.two_pow_pos _)]
    have := (Sc.SC.bl_pos (n := l.toNat) (by omega) (by omega)).2.1
    unfold Sc.eOf
    omega
  obtain ⟨k, hk⟩ : ∃ k, Sc.hOf d = k := ⟨_, rfl⟩
  rw [hk] at hhalf ⊢
  have ha := Sc.SC.dbl_lt (h := k) (u := u) (by omega)
  have hd : Sc.SC.dbl k u ≤ 62 - (k + 1) := by unfold Sc.SC.dbl; omega
  obtain ⟨D, hD⟩ : ∃ D, Sc.SC.dbl k u = D := ⟨_, rfl⟩
  rw [hD] at ha hd ⊢
  rcases hhalf with rfl | rfl | rfl
  all_goals
    by_cases z : D = 0
    · subst z
      simp at ha ⊢
      omega
    · generalize u / 2 ^ D = g at *
      simp at ha hd ⊢
      omega
/-- the words of a new one -/
def startH (m : Nat) : List Int := (List.replicate (m + 4) 0).set (m + 1) 18446744073709551615
def NewH (w : World) (l h d : Int) (e : Ending) (w' : World) : Prop := ∃ bh bk bw, e = .returned (.tuple #[.pointer (some ⟨bh, 0, none⟩), .int .i64 0]) ∧ w.heap.size ≤ bh ∧ w.heap.size ≤ bk ∧ w.heap.size ≤ bw ∧ HistM w' bh bk bw l h d (Sc.cnt l h d) (startH (Sc.cnt l h d)) ∧ Below w.heap.size w w'
theorem hnew_no {l h d : Int} (r : Sc.rightB l h d = false) (w : World) : Calls Try.prog 10 #[.agg #[.int .i64 l, .int .i64 h, .int .i64 d]] w fun e w' => e = .returned (.tuple #[.pointer none, .int .i64 80]) ∧ Below w.heap.size w w' := by
  have H1 := Lib.hid (show Below w.heap.size w (w.alloc (.cells #[.int .i64 l, .int .i64 h, .int .i64 d] 23)) from (Below.refl _ _).alloc (Nat.le_refl _) _)
  have R := Lib.hid r
  clear r
  go_enter Try.func10, Try.ntmps10
  go_wp2_with (go_at_call 31; refine (Sc.scount_no R.out _).mono ?_; rintro e w2 ⟨rfl, hb⟩; have HB := Lib.hid hb; clear hb)
  go_ret2
  exact ⟨rfl, H1.out.trans (HB.out.mono H1.out.size)⟩
theorem hnew_yes {l h d : Int} (r : Sc.rightB l h d = true) (w : World) : Calls Try.prog 10 #[.agg #[.int .i64 l, .int .i64 h, .int .i64 d]] w (NewH w l h d) := by
  obtain ⟨hc3, hc4⟩ := cnt_few r
  have H1 := Lib.hid (show Below w.heap.size w (w.alloc (.cells #[.int .i64 l, .int .i64 h, .int .i64 d] 23)) from (Below.refl _ _).alloc (Nat.le_refl _) _)
  have HB1 := Lib.hid (Row.new w 23 [.int .i64 l, .int .i64 h, .int .i64 d])
  have R := Lib.hid r
  clear r
  unfold NewH
  have HC := Lib.hid (fun w => Sc.scount_yes (l := l) (h := h) (d := d) R.out w)
  generalize Sc.cnt l h d = m at *
  have w4 : IntKind.i64.wrap ((m : Int) + 4) = ((m + 4 : Nat) : Int) := by rw [IntKind.wrap_i64]; omega
  have w1 : IntKind.i64.wrap ((m : Int) + 1) = (m : Int) + 1 := by rw [IntKind.wrap_i64]; omega
  have M4 := Lib.hid hc4
  go_enter Try.func10, Try.ntmps10
  go_upto_region 6 with (first
    | (go_at_call 31; refine (HC.out _).mono ?_; rintro e w2 ⟨rfl, hb⟩; have HB2 := Lib.hid (H1.out.trans (hb.mono H1.out.size)); have HR2 := Lib.hid (HB1.out.below hb HB1.out.lt); clear hb)
    | (go_at_call 36; refine (new_yes w2 (n := m + 4) (by have := M4.out; omega)).mono ?_; rintro e w3 ⟨bk, bw, rfl, hk, hw, hW, hb⟩; have HB3 := Lib.hid (HB2.out.trans (hb.mono HB2.out.size)); have HR3 := Lib.hid (HR2.out.below hb HR2.out.lt); have HW3 := Lib.hid hW; have HK3 := Lib.hid (Nat.le_trans HB2.out.size hk); have HV3 := Lib.hid (Nat.le_trans HB2.out.size hw); clear hk hw hW hb)
    | (go_at_call 37; refine (cells_store HW3.out (i := m + 1) (by simp) (by rw [List.length_replicate]; omega) (by unfold U64; omega)).mono ?_; rintro e w5 ⟨rfl, hW, hP⟩; have HW5 := Lib.hid hW; have HB5 := Lib.hid (HB3.out.trans (hP.below HB3.out.size (by simpa using HV3.out))); have hr5 := HR3.out.part hP (by simpa using HR3.out.ne HW3.out.row (by decide)); have q0 := hr5.cell 0; have q1 := hr5.cell 1; have q2 := hr5.cell 2; have ql := hr5.lt; clear hW hP hr5))
  go_wp2
  go_ret2
  have hb6 := HB5.out.alloc HB5.out.size (.cells #[.int .i64 l, .int .i64 h, .int .i64 d, .int .i64 (m : Int), .pointer (some ⟨bk, 0, none⟩)] 82)
  exact ⟨w5.heap.size, bk, bw, rfl, HB5.out.size, HK3.out, HV3.out, ⟨Row.new w5 82 _, HW5.out.alloc _, by simp [startH], by have := M4.out; omega⟩, hb6⟩
theorem neq_nil_nil (w : World) : (binOp BinOp.neq 83 Value.nilFunc Value.nilFunc).run Try.prog w = .ok (.bool false) w := by kernel_rfl
theorem neq_fn_nil (f : FuncId) (cs : Array Value) (w : World) : (binOp BinOp.neq 83 (.func (.func f) #[] cs) Value.nilFunc).run Try.prog w = .ok (.bool true) w := by kernel_rfl
theorem suu_nil (w : World) : (binOp BinOp.eql 42 (.slice none 0 0) (.slice none 0 0)).run Try.prog w = .ok (.bool true) w := by kernel_rfl
theorem suu_some (a : Addr) (n c : Nat) (w : World) : (binOp BinOp.eql 42 (.slice (some a) n c) (.slice none 0 0)).run Try.prog w = .ok (.bool false) w := by kernel_rfl
theorem ownsRow_base {w : World} {base base' : Nat} {e : TypeId} {size : Nat} {v : Value} {n : Nat} {xs : List Value} (h : w.ownsRow base e size v n xs) (hb : base' ≤ base) : w.ownsRow base' e size v n xs := by
  obtain ⟨h1, h2⟩ := h
  refine ⟨h1, ?_⟩
  rcases h2 with h2 | ⟨g, cap, cur, hv, hg, r⟩
  · exact Or.inl h2
  · exact Or.inr ⟨g, cap, cur, hv, Nat.le_trans hb hg, r⟩
theorem u64_one (l : List Int) : ∀ u ∈ u64s l, u.oneCell' = true := by
  intro u hu
  simp [u64s] at hu
  obtain ⟨x, _, rfl⟩ := hu
  rfl
theorem row_at {w : World} {b : Nat} {t : TypeId} {l : List Value} (h : Row w b t l) : ∀ j u, l[j]? = some u → w.cell? ((⟨b, 0, none⟩ : Addr).add j) = some u := fun j u hj => by
  rw [add_zero_]
  exact (h.cell j).trans hj
/-- numbers of new memory -/
def NewU (w : World) (b c : Nat) (xs : List Int) (w' : World) : Prop := w.heap.size ≤ b ∧ w'.ownsRow w.heap.size 38 1 (.slice (some ⟨b, 0, none⟩) xs.length c) xs.length (u64s xs) ∧ Below w.heap.size w w'
theorem clone_any {w : World} {b c : Nat} {xs : List Int} (h : Row w b 38 (u64s xs)) (h0 : 0 < xs.length) (hl : xs.length ≤ 1000000) :
    Calls Try.prog 43 #[.slice (some ⟨b, 0, none⟩) xs.length c] w fun e w' => ∃ b' c', e = .returned (.slice (some ⟨b', 0, none⟩) xs.length c') ∧ NewU w b' c' xs w' := by
  obtain ⟨i0, hi, hz0, hz1, hz2⟩ := info_parts info29
  have hws : ¬ xs = [] := by rintro rfl; simp at h0
  have HP := Lib.hid h0
  have H3 : Hid (0 + xs.length ≤ maxLen) := Lib.hid (by unfold maxLen; omega)
  have H4 : Hid ((0 + xs.length) * 8 ≤ 140737488355328) := Lib.hid (by omega)
  have HK0 : Hid ((w.alloc (.cells #[] 38)).ownsRow w.heap.size 38 1 (.slice (some ⟨w.heap.size, 0, none⟩) 0 0) 0 []) := Lib.hid (own_of_row (Row.new w _ []) rfl (Nat.le_refl _) (Nat.zero_le _))
  have H := Lib.hid h
  have q1 := suu_some
  clear h h0
  go_enter Try.func43, Try.ntmps43
  go_wp2_with (at_builtin; refine wpList_append_own _ rfl _ _ 42 rfl w.heap.size 38 i0 (.int .u64 0) 1 8 Try.underlying42 hi hz0 hz1 hz2 rfl (by decide) _ _ _ rfl HK0.out ⟨b, 0, none⟩ xs.length c (u64s xs) rfl (by simp [u64s]) (row_at (H.out.alloc _)) (u64_one xs) H3.out H4.out (by simp) ?_; intro vk w6 hown6 hgr6 hz6; rw [Nat.zero_add, List.nil_append] at hown6; have HG6 : Hid ((w.alloc (.cells #[] 38)).grownBy w6 (some w.heap.size)) := Lib.hid hgr6; obtain ⟨gk, ck, rfl, hgk, hlk⟩ := own_some hown6 HP.out; have HK6 := Lib.hid hown6; have HGK := Lib.hid hgk; clear hown6 hgr6 hz6 hgk hlk)
  go_ret
  exact ⟨gk, ck, rfl, HGK.out, HK6.out, ((Below.refl _ _).alloc (Nat.le_refl _) _).grown HG6.out (by simp) (fun q hq => by cases hq; exact Nat.le_refl _)⟩
theorem clone_nil (w : World) :
    Calls Try.prog 43 #[.slice none 0 0] w fun e w' => e = .returned (.slice none 0 0) ∧ w = w' := by
  have q1 := suu_nil
  go_enter Try.func43, Try.ntmps43
  go_wp2
  go_ret
  exact ⟨rfl, rfl⟩
section
variable {w : World} {bp bh m : Nat} {nx : Value} {s : ShM} {o : OpH}
theorem hanswer_none (hp : Row w bp 85 (pendH bh .nilFunc s)) (hv : s.bv = nilU) :
    Calls Try.prog 20 #[.pointer (some ⟨bp, 0, none⟩)] w fun e w' => e = .returned (.agg #[.int .u64 s.c, .int .u64 s.su, .int .i64 s.le, .int .i64 s.gr, .slice none 0 0]) ∧ Below w.heap.size w w' := by
  have c1 : w.cell? ⟨bp, 1, none⟩ = some .nilFunc := hp.cell 1
  have c2 : w.cell? ⟨bp, 2, none⟩ = some (.int .u64 s.c) := hp.cell 2
  have c3 : w.cell? ⟨bp, 3, none⟩ = some (.int .u64 s.su) := hp.cell 3
  have c4 : w.cell? ⟨bp, 4, none⟩ = some (.int .i64 s.le) := hp.cell 4
  have c5 : w.cell? ⟨bp, 5, none⟩ = some (.int .i64 s.gr) := hp.cell 5
  have c6 : w.cell? ⟨bp, 6, none⟩ = some (.slice none 0 0) := (hp.cell 6).trans (congrArg some hv)
  have hlt := hp.lt
  have hne : ¬ bp = w.heap.size := by omega
  have q1 := neq_nil_nil
  have q2 := neq_fn_nil
  clear hp hv
  go_enter Try.func20, Try.ntmps20
  go_wp2_with (go_at_call 43; refine (clone_nil _).mono ?_; rintro e wx ⟨rfl, rfl⟩)
  refine bodyPost_ret (v := .agg #[.int .u64 s.c, .int .u64 s.su, .int .i64 s.le, .int .i64 s.gr, .slice none 0 0]) (by simp [results, Try.results20, go_sem]) rfl ⟨rfl, ?_⟩
  repeat (first | (with_reducible exact Below.refl _ _) | refine Below.alloc ?_ (by simp; try omega) _ | refine Below.setCell ?_ (by simp) _)
theorem hanswer_wait {f : Nat} {cs : Array Value} (hp : Row w bp 85 (pendH bh (.func (.func f) #[] cs) s)) :
    Calls Try.prog 20 #[.pointer (some ⟨bp, 0, none⟩)] w fun e w' => e = .returned (.agg #[.int .u64 0, .int .u64 0, .int .i64 0, .int .i64 0, .slice none 0 0]) ∧ Below w.heap.size w w' := by
  have c1 : w.cell? ⟨bp, 1, none⟩ = some (.func (.func f) #[] cs) := hp.cell 1
  have hlt := hp.lt
  have hne : ¬ bp = w.heap.size := by omega
  have q1 := neq_nil_nil
  have q2 := neq_fn_nil
  clear hp
  go_enter Try.func20, Try.ntmps20
  go_wp2
  refine bodyPost_ret (v := .agg #[.int .u64 0, .int .u64 0, .int .i64 0, .int .i64 0, .slice none 0 0]) (by simp [results, Try.results20, go_sem]) rfl ⟨rfl, ?_⟩
  repeat (first | (with_reducible exact Below.refl _ _) | refine Below.alloc ?_ (by simp; try omega) _ | refine Below.setCell ?_ (by simp) _)
theorem hanswer_some {bb : Nat} {bu : List Int} (hp : Row w bp 85 (pendH bh .nilFunc s)) (hv : s.bv = .slice (some ⟨bb, 0, none⟩) bu.length m) (hb : Row w bb 38 (u64s bu)) (h0 : 0 < bu.length) (hl : bu.length ≤ 1000000) :
    Calls Try.prog 20 #[.pointer (some ⟨bp, 0, none⟩)] w fun e w' => ∃ b' c', e = .returned (.agg #[.int .u64 s.c, .int .u64 s.su, .int .i64 s.le, .int .i64 s.gr, .slice (some ⟨b', 0, none⟩) bu.length c']) ∧ NewU w b' c' bu w' := by
  have c1 : w.cell? ⟨bp, 1, none⟩ = some .nilFunc := hp.cell 1
  have c2 : w.cell? ⟨bp, 2, none⟩ = some (.int .u64 s.c) := hp.cell 2
  have c3 : w.cell? ⟨bp, 3, none⟩ = some (.int .u64 s.su) := hp.cell 3
  have c4 : w.cell? ⟨bp, 4, none⟩ = some (.int .i64 s.le) := hp.cell 4
  have c5 : w.cell? ⟨bp, 5, none⟩ = some (.int .i64 s.gr) := hp.cell 5
  have c6 : w.cell? ⟨bp, 6, none⟩ = some (.slice (some ⟨bb, 0, none⟩) bu.length m) := (hp.cell 6).trans (congrArg some hv)
  have hlt := hp.lt
  have hne : ¬ bp = w.heap.size := by omega
  have q1 := neq_nil_nil
  have q2 := neq_fn_nil
  have HB := Lib.hid hb
  have H0 := Lib.hid h0
  clear hp hv hb h0
  go_enter Try.func20, Try.ntmps20
  go_wp2_with (go_at_call 43; refine (clone_any ((HB.out.alloc _).alloc _) H0.out hl).mono ?_; rintro e w2 ⟨b2, cb, rfl, hlo2, hown2, hb2⟩; have HL2 := Lib.hid hlo2; have HO2 := Lib.hid hown2; have HB2 := Lib.hid hb2; have hr0 := Row.one hb2; have hr1 := Row.two hb2; obtain ⟨d0, d1, d2, d3, d4⟩ := hr0.five; obtain ⟨e0, e1, e2, e3, e4⟩ := hr1.five; have ef0 := hr0.free; have ef1 := hr1.free; have el0 := hr0.lt; have el1 := hr1.lt; clear hr0 hr1 hlo2 hown2 hb2)
  refine bodyPost_ret (v := .agg #[.int .u64 s.c, .int .u64 s.su, .int .i64 s.le, .int .i64 s.gr, .slice (some ⟨b2, 0, none⟩) bu.length cb]) (by simp [results, Try.results20, go_sem, d0, d1, d2, d3, d4]) rfl ⟨b2, cb, rfl, ?_⟩
  have hl2 := HL2.out
  simp only [World.size_alloc] at hl2
  suffices hE : Part [w.heap.size, w.heap.size + 1] w2 _ from
    ⟨by omega, ownsRow_base (own_part HO2.out hE (fun q hq => by cases hq; simp; omega)) (by simp; omega), (((Below.refl _ _).alloc (Nat.le_refl _) _).alloc (by simp) _ |>.trans (HB2.out.mono (by simp; omega))).trans (hE.below (by have := HB2.out.size; simp at this; omega) (by simp))⟩
  repeat (first | (with_reducible exact Part.refl _ _) | refine Part.set ?_ (by simp) _)
end
end Go.Proofs.Ytiifhkfkcljoiaa

/- THE WALKS of package hist: Merge. -/
import Derived.Test.YtiifhkfkcljoiaaIt
import Derived.Deep.RegionLaw
import Derived.Deep.AppendLies
import Derived.Laws.MakeOwn
namespace Go.Proofs.Ytiifhkfkcljoiaa
open Go Go.RowKit
set_option maxRecDepth 100000
set_option maxHeartbeats 3200000
theorem ext_src {w : World} {ad : Addr} {zs : List Int} (hX : Ext .u64 w (some ad) zs) : ∀ j u, (u64s zs)[j]? = some u → w.cell? (ad.add j) = some u := by
  intro j u hj
  rw [u64s_get] at hj
  obtain ⟨x, h1, rfl⟩ := Option.map_eq_some_iff.1 hj
  obtain ⟨b, o, e1, _, e2⟩ := hX j x h1
  cases e1
  rw [Addr.add_lit]
  exact e2
theorem clone_ext {w : World} {A : Option Addr} {c : Nat} {xs : List Int} (hA : Ext .u64 w A xs) (h0 : 0 < xs.length) (hl : xs.length ≤ 1048576) :
    Calls Try.prog 43 #[.slice A xs.length c] w fun e w' => ∃ b' c', e = .returned (.slice (some ⟨b', 0, none⟩) xs.length c') ∧ NewU w b' c' xs w' := by
  obtain ⟨i0, hi, hz0, hz1, hz2⟩ := info_parts info29
  have hws : ¬ xs = [] := by rintro rfl; simp at h0
  obtain ⟨ad, rfl⟩ : ∃ ad, A = some ad := by
    obtain ⟨b, o, e, _⟩ := hA 0 _ (List.getElem?_eq_getElem h0)
    exact ⟨_, e⟩
  have HP := Lib.hid h0
  have H3 : Hid (0 + xs.length ≤ maxLen) := Lib.hid (by unfold maxLen; omega)
  have H4 : Hid ((0 + xs.length) * 8 ≤ 140737488355328) := Lib.hid (by omega)
  have HK0 : Hid ((w.alloc (.cells #[] 38)).ownsRow w.heap.size 38 1 (.slice (some ⟨w.heap.size, 0, none⟩) 0 0) 0 []) := Lib.hid (own_of_row (Row.new w _ []) rfl (Nat.le_refl _) (Nat.zero_le _))
  have H := Lib.hid (hA.on ((Below.refl w.heap.size w).alloc (Nat.le_refl _) (.cells #[] 38)))
  have q1 := suu_some
  clear hA h0
  go_enter Try.func43, Try.ntmps43
  go_wp2_with (at_builtin; refine wpList_append_own _ rfl _ _ 42 rfl w.heap.size 38 i0 (.int .u64 0) 1 8 Try.underlying42 hi hz0 hz1 hz2 rfl (by decide) _ _ _ rfl HK0.out ad xs.length c (u64s xs) rfl (by simp [u64s]) (ext_src H.out) (u64_one xs) H3.out H4.out (by simp) ?_; intro vk w6 hown6 hgr6 hz6; rw [Nat.zero_add, List.nil_append] at hown6; have HG6 : Hid ((w.alloc (.cells #[] 38)).grownBy w6 (some w.heap.size)) := Lib.hid hgr6; obtain ⟨gk, ck, rfl, hgk, hlk⟩ := own_some hown6 HP.out; have HK6 := Lib.hid hown6; have HGK := Lib.hid hgk; clear hown6 hgr6 hz6 hgk hlk)
  go_ret
  exact ⟨gk, ck, rfl, HGK.out, HK6.out, ((Below.refl _ _).alloc (Nat.le_refl _) _).grown HG6.out (by simp) (fun q hq => by cases hq; exact Nat.le_refl _)⟩
/-- two lists, added place by place -/
def addU (xs ys : List Int) : List Int := List.zipWith (fun a b => IntKind.u64.wrap (a + b)) xs ys
/-- two snapshots merged -/
def mergeS (f1 f2 : ShotH) : ShotH := ⟨IntKind.u64.wrap (f1.c + f2.c), IntKind.u64.wrap (f1.su + f2.su), IntKind.i64.wrap (min (IntKind.u64.wrap f1.le) (IntKind.u64.wrap f2.le)), max f1.gr f2.gr, addU f1.bu f2.bu⟩
def checkS (l h d : Int) (f : ShotH) : Int := checkP l h d f.bu f.c f.su f.le f.gr
def mixU (xs ys : List Int) (k : Nat) : List Int := (addU xs ys).take k ++ xs.drop k
theorem mix_zero (xs ys : List Int) : mixU xs ys 0 = xs := by simp [mixU]
theorem mix_all {xs ys : List Int} (h : xs.length = ys.length) : mixU xs ys xs.length = addU xs ys := by
  have e : (addU xs ys).length = xs.length := by simp [addU, h]
  unfold mixU
  rw [List.take_of_length_le (by omega), List.drop_length, List.append_nil]
theorem mix_length {xs ys : List Int} (h : xs.length = ys.length) (k : Nat) : (mixU xs ys k).length = xs.length := by
  have e : (addU xs ys).length = xs.length := by simp [addU, h]
  simp [mixU, e]
  omega
theorem mix_get {xs ys : List Int} (h : xs.length = ys.length) {k : Nat} (hk : k < xs.length) : (mixU xs ys k)[k]? = xs[k]? := by
  have e : (addU xs ys).length = xs.length := by simp [addU, h]
  unfold mixU
  rw [List.getElem?_append_right (by simp; omega)]
  simp [e]
  congr 1
  omega
theorem mix_set {xs ys : List Int} (h : xs.length = ys.length) {k : Nat} {x y : Int} (hx : xs[k]? = some x) (hy : ys[k]? = some y) : (mixU xs ys k).set k (IntKind.u64.wrap (x + y)) = mixU xs ys (k + 1) := by
  have e : (addU xs ys).length = xs.length := by simp [addU, h]
  have hk := lt_of_get hx
  have hz : (addU xs ys)[k]? = some (IntKind.u64.wrap (x + y)) := by simp [addU, List.getElem?_zipWith, hx, hy]
  unfold mixU
  rw [List.take_add_one, hz]
  rw [List.set_append_right _ _ (by simp; omega)]
  have e2 : k - ((addU xs ys).take k).length = 0 := by simp; omega
  rw [e2, List.drop_eq_getElem_cons hk, List.set_cons_zero, List.append_assoc]
  rfl
section
variable {w : World} {A B : Option Addr} {c c' : Nat} {f1 f2 : ShotH} {l h d : Int}
/-- in Merge: what its boxes have -/
structure MergeB (w : World) (l h d : Int) (f1 f2 : ShotH) (A B : Option Addr) (c c' : Nat) (wr : World) : Prop where
  sc : Row wr w.heap.size 23 [.int .i64 l, .int .i64 h, .int .i64 d]
  x : Row wr (w.heap.size + 1) 44 [.int .u64 f1.c, .int .u64 f1.su, .int .i64 f1.le, .int .i64 f1.gr, .slice A f1.bu.length c]
  y : Row wr (w.heap.size + 2) 44 [.int .u64 f2.c, .int .u64 f2.su, .int .i64 f2.le, .int .i64 f2.gr, .slice B f2.bu.length c']
  res : Row wr (w.heap.size + 3) 44 [.int .u64 0, .int .u64 0, .int .i64 0, .int .i64 0, .slice none 0 0]
  both : Row wr (w.heap.size + 4) 44 [.int .u64 f1.c, .int .u64 f1.su, .int .i64 f1.le, .int .i64 f1.gr, .slice A f1.bu.length c, .int .u64 f2.c, .int .u64 f2.su, .int .i64 f2.le, .int .i64 f2.gr, .slice B f2.bu.length c']
  low : Below w.heap.size w wr
theorem MergeB.on {wr w1 : World} (hM : MergeB w l h d f1 f2 A B c c' wr) (hb : Below wr.heap.size wr w1) : MergeB w l h d f1 f2 A B c c' w1 :=
  ⟨hM.sc.below hb hM.sc.lt, hM.x.below hb hM.x.lt, hM.y.below hb hM.y.lt, hM.res.below hb hM.res.lt, hM.both.below hb hM.both.lt, hM.low.trans (hb.mono hM.low.size)⟩
theorem MergeB.alloc {wr : World} (hM : MergeB w l h d f1 f2 A B c c' wr) (ob : Obj) : MergeB w l h d f1 f2 A B c c' (wr.alloc ob) := hM.on ((Below.refl _ _).alloc (Nat.le_refl _) ob)
theorem mergeB_start : MergeB w l h d f1 f2 A B c c' (((((w.alloc (.cells #[.int .i64 l, .int .i64 h, .int .i64 d] 23)).alloc (.cells #[.int .u64 f1.c, .int .u64 f1.su, .int .i64 f1.le, .int .i64 f1.gr, .slice A f1.bu.length c] 44)).alloc (.cells #[.int .u64 f2.c, .int .u64 f2.su, .int .i64 f2.le, .int .i64 f2.gr, .slice B f2.bu.length c'] 44)).alloc (.cells #[.int .u64 0, .int .u64 0, .int .i64 0, .int .i64 0, .slice none 0 0] 44)).alloc (.cells #[.int .u64 f1.c, .int .u64 f1.su, .int .i64 f1.le, .int .i64 f1.gr, .slice A f1.bu.length c, .int .u64 f2.c, .int .u64 f2.su, .int .i64 f2.le, .int .i64 f2.gr, .slice B f2.bu.length c'] 44)) := by
  have hb : Below w.heap.size w (((((w.alloc (.cells #[.int .i64 l, .int .i64 h, .int .i64 d] 23)).alloc (.cells #[.int .u64 f1.c, .int .u64 f1.su, .int .i64 f1.le, .int .i64 f1.gr, .slice A f1.bu.length c] 44)).alloc (.cells #[.int .u64 f2.c, .int .u64 f2.su, .int .i64 f2.le, .int .i64 f2.gr, .slice B f2.bu.length c'] 44)).alloc (.cells #[.int .u64 0, .int .u64 0, .int .i64 0, .int .i64 0, .slice none 0 0] 44)).alloc (.cells #[.int .u64 f1.c, .int .u64 f1.su, .int .i64 f1.le, .int .i64 f1.gr, .slice A f1.bu.length c, .int .u64 f2.c, .int .u64 f2.su, .int .i64 f2.le, .int .i64 f2.gr, .slice B f2.bu.length c'] 44)) := by
    repeat (first | (with_reducible exact Below.refl _ _) | refine Below.alloc ?_ (by simp; try omega) _)
  exact ⟨((((Row.new w _ _).alloc _).alloc _).alloc _).alloc _, (((Row.at_ (w := w.alloc _) (by simp)).alloc _).alloc _).alloc _, ((Row.at_ (w := (w.alloc _).alloc _) (by simp)).alloc _).alloc _, (Row.at_ (w := ((w.alloc _).alloc _).alloc _) (by simp)).alloc _, Row.at_ (w := (((w.alloc _).alloc _).alloc _).alloc _) (by simp), hb⟩
theorem ten_cells {wr : World} {b : Nat} {t : TypeId} {x0 x1 x2 x3 x4 y0 y1 y2 y3 y4 : Value} (hr : Row wr b t [x0, x1, x2, x3, x4, y0, y1, y2, y3, y4]) : wr.cell? ⟨b, 0, none⟩ = some x0 ∧ wr.cell? ⟨b, 1, none⟩ = some x1 ∧ wr.cell? ⟨b, 2, none⟩ = some x2 ∧ wr.cell? ⟨b, 3, none⟩ = some x3 ∧ wr.cell? ⟨b, 4, none⟩ = some x4 ∧ wr.cell? ⟨b, 5, none⟩ = some y0 ∧ wr.cell? ⟨b, 6, none⟩ = some y1 ∧ wr.cell? ⟨b, 7, none⟩ = some y2 ∧ wr.cell? ⟨b, 8, none⟩ = some y3 ∧ wr.cell? ⟨b, 9, none⟩ = some y4 :=
  ⟨hr.cell 0, hr.cell 1, hr.cell 2, hr.cell 3, hr.cell 4, hr.cell 5, hr.cell 6, hr.cell 7, hr.cell 8, hr.cell 9⟩
theorem MergeB.store {wr : World} {b' i : Nat} {x : Value} {lx : List Value} (hM : MergeB w l h d f1 f2 A B c c' wr) (hr : Row wr b' 38 lx) (hlo : w.heap.size ≤ b') : MergeB w l h d f1 f2 A B c c' (wr.setCell ⟨b', i, none⟩ x) :=
  ⟨hM.sc.far (hr.ne hM.sc (by decide)) _, hM.x.far (hr.ne hM.x (by decide)) _, hM.y.far (hr.ne hM.y (by decide)) _, hM.res.far (hr.ne hM.res (by decide)) _, hM.both.far (hr.ne hM.both (by decide)) _, hM.low.setCell hlo _⟩
/-- the lists are cloned -/
structure MidM (w : World) (l h d : Int) (f1 f2 : ShotH) (A B : Option Addr) (c c' b11 b' c9 k : Nat) (wx : World) : Prop where
  box : Row wx b11 44 [.int .u64 (IntKind.u64.wrap (f1.c + f2.c)), .int .u64 (IntKind.u64.wrap (f1.su + f2.su)), .int .i64 (IntKind.i64.wrap (min (IntKind.u64.wrap f1.le) (IntKind.u64.wrap f2.le))), .int .i64 (max f1.gr f2.gr), (.slice (some ⟨b', 0, none⟩) f1.bu.length c9)]
  own : wx.ownsRow w.heap.size 38 1 (.slice (some ⟨b', 0, none⟩) f1.bu.length c9) f1.bu.length (u64s (mixU f1.bu f2.bu k))
  lo : w.heap.size ≤ b'
  mb : MergeB w l h d f1 f2 A B c c' wx
theorem mid_a {wr w5 : World} {b' c9 : Nat} (hM : MergeB w l h d f1 f2 A B c c' wr) (hn : NewU wr.drew b' c9 f1.bu w5) : MidM w l h d f1 f2 A B c c' w5.heap.size b' c9 0 (w5.alloc (.cells #[.int .u64 (IntKind.u64.wrap (f1.c + f2.c)), .int .u64 (IntKind.u64.wrap (f1.su + f2.su)), .int .i64 (IntKind.i64.wrap (min (IntKind.u64.wrap f1.le) (IntKind.u64.wrap f2.le))), .int .i64 (max f1.gr f2.gr), (.slice (some ⟨b', 0, none⟩) f1.bu.length c9)] 44)) := by
  obtain ⟨h1, h2, h3⟩ := hn
  have hsz := hM.low.size
  rw [show u64s f1.bu = u64s (mixU f1.bu f2.bu 0) by rw [mix_zero]] at h2
  have hb : Below wr.heap.size wr w5 := ((Below.refl wr.heap.size wr).drew).trans h3
  exact ⟨Row.new w5 _ _, ownsRow_base (h2.alloc _) hsz, Nat.le_trans hsz h1, (hM.on hb).alloc _⟩
theorem mid_b {wr w5 : World} {b' c9 : Nat} (hM : MergeB w l h d f1 f2 A B c c' wr) (hn : NewU (wr.alloc (.cells #[.int .u64 0, .int .u64 0, .int .i64 0, .int .i64 0, .slice none 0 0] 44)).drew b' c9 f1.bu w5) :
    MidM w l h d f1 f2 A B c c' wr.heap.size b' c9 0 (((((w5.setCell ⟨wr.heap.size, 0, none⟩ (.int .u64 (IntKind.u64.wrap (f1.c + f2.c)))).setCell ⟨wr.heap.size, 1, none⟩ (.int .u64 (IntKind.u64.wrap (f1.su + f2.su)))).setCell ⟨wr.heap.size, 2, none⟩ (.int .i64 (IntKind.i64.wrap (min (IntKind.u64.wrap f1.le) (IntKind.u64.wrap f2.le))))).setCell ⟨wr.heap.size, 3, none⟩ (.int .i64 (max f1.gr f2.gr))).setCell ⟨wr.heap.size, 4, none⟩ (.slice (some ⟨b', 0, none⟩) f1.bu.length c9)) := by
  obtain ⟨h1, h2, h3⟩ := hn
  have hsz := hM.low.size
  simp only [World.size_drew, World.size_alloc] at h1 h2 h3
  rw [show u64s f1.bu = u64s (mixU f1.bu f2.bu 0) by rw [mix_zero]] at h2
  have hz : Row w5 wr.heap.size 44 [.int .u64 0, .int .u64 0, .int .i64 0, .int .i64 0, .slice none 0 0] := (Row.new wr 44 [.int .u64 0, .int .u64 0, .int .i64 0, .int .i64 0, .slice none 0 0]).drew.below h3 (by omega)
  have hb : Below wr.heap.size wr w5 := (((Below.refl wr.heap.size wr).alloc (Nat.le_refl _) _).drew).trans (h3.mono (by simp))
  have hb5 := ((((hb.setCell (p := ⟨wr.heap.size, 0, none⟩) (Nat.le_refl _) (.int .u64 (IntKind.u64.wrap (f1.c + f2.c)))).setCell (p := ⟨wr.heap.size, 1, none⟩) (Nat.le_refl _) (.int .u64 (IntKind.u64.wrap (f1.su + f2.su)))).setCell (p := ⟨wr.heap.size, 2, none⟩) (Nat.le_refl _) (.int .i64 (IntKind.i64.wrap (min (IntKind.u64.wrap f1.le) (IntKind.u64.wrap f2.le))))).setCell (p := ⟨wr.heap.size, 3, none⟩) (Nat.le_refl _) (.int .i64 (max f1.gr f2.gr))).setCell (p := ⟨wr.heap.size, 4, none⟩) (Nat.le_refl _) (.slice (some ⟨b', 0, none⟩) f1.bu.length c9)
  have hP : Part [wr.heap.size] w5 (((((w5.setCell ⟨wr.heap.size, 0, none⟩ (.int .u64 (IntKind.u64.wrap (f1.c + f2.c)))).setCell ⟨wr.heap.size, 1, none⟩ (.int .u64 (IntKind.u64.wrap (f1.su + f2.su)))).setCell ⟨wr.heap.size, 2, none⟩ (.int .i64 (IntKind.i64.wrap (min (IntKind.u64.wrap f1.le) (IntKind.u64.wrap f2.le))))).setCell ⟨wr.heap.size, 3, none⟩ (.int .i64 (max f1.gr f2.gr))).setCell ⟨wr.heap.size, 4, none⟩ (.slice (some ⟨b', 0, none⟩) f1.bu.length c9)) := by
    repeat (first | (with_reducible exact Part.refl _ _) | refine Part.set ?_ (by simp) _)
  exact ⟨Row.of_eq (((((hz.set 0 _).set 1 _).set 2 _).set 3 _).set 4 _) rfl, ownsRow_base (own_part h2 hP (fun q hq => by simpa using own_off h2 hz (by decide) q hq)) (by omega), by omega, hM.on hb5⟩
/-- what Merge leaves -/
def MergedH (w : World) (l h d : Int) (f1 f2 : ShotH) (e : Ending) (w' : World) : Prop :=
  Below w.heap.size w w' ∧ ((checkS l h d f1 = 0 ∧ checkS l h d f2 = 0 ∧ ∃ b' c', e = .returned (.tuple #[.agg #[.int .u64 (IntKind.u64.wrap (f1.c + f2.c)), .int .u64 (IntKind.u64.wrap (f1.su + f2.su)), .int .i64 (IntKind.i64.wrap (min (IntKind.u64.wrap f1.le) (IntKind.u64.wrap f2.le))), .int .i64 (max f1.gr f2.gr), (.slice (some ⟨b', 0, none⟩) f1.bu.length c')], .int .i64 0]) ∧ w.heap.size ≤ b' ∧ w'.ownsRow w.heap.size 38 1 (.slice (some ⟨b', 0, none⟩) f1.bu.length c') f1.bu.length (u64s (addU f1.bu f2.bu)))
   ∨ (∃ why, why ≠ 0 ∧ (why = checkS l h d f1 ∨ (checkS l h d f1 = 0 ∧ why = checkS l h d f2)) ∧ e = .returned (.tuple #[.agg #[.int .u64 0, .int .u64 0, .int .i64 0, .int .i64 0, .slice none 0 0], .int .i64 why])))
theorem check_len {f : ShotH} (hc : checkS l h d f = 0) : Sc.rightB l h d = true ∧ f.bu.length = Sc.cnt l h d := by
  unfold checkS checkP at hc
  by_cases a : Sc.rightB l h d = false
  · rw [if_pos a] at hc; cases hc
  · rw [if_neg a] at hc
    by_cases b : f.bu.length ≠ Sc.cnt l h d
    · rw [if_pos b] at hc; cases hc
    · exact ⟨by simpa using a, by simpa using b⟩
end
end Go.Proofs.Ytiifhkfkcljoiaa

/- AN OPERATION OF A QUOTA, IN PLAIN WORDS; Step as one contract. -/
import Derived.Test.YteoekkhgpdhnhaaDoorBf
namespace Go.Proofs.YteoekkhgpdhnhaaDoor
open Go Go.RowKit
set_option maxRecDepth 100000
/-- k: 1 take, 2 back, 3 left; wk: the worker; ph: the number of the next action, 9: it has ended; what was seen last; what is in hand; how many cells were passed; their sum; the answer -/
structure OpB where
  k : Int
  wk : Nat
  ph : Nat
  saw : Int
  hand : Int
  c : Nat
  sum : Int
  ans : Int
def newB (k : Int) (wk : Nat) : OpB := ⟨k, wk, 0, 0, 0, 0, 0, 0⟩
def stepB (ba : Int) (ws : List Int) (o : OpB) : OpB :=
  if o.ph = 9 then o
  else if o.k = 1 then
    if o.ph = 0 then (if 0 < ws.getD (o.wk + 1) 0 then { o with ph := 1, saw := ws.getD (o.wk + 1) 0 } else { o with ph := 2 })
    else if o.ph = 1 then (if ws.getD (o.wk + 1) 0 = o.saw then { o with ph := 9, ans := 1 } else { o with ph := 0 })
    else if o.ph = 2 then (if 0 < ws.getD 0 0 then { o with ph := 3, saw := ws.getD 0 0 } else { o with ph := 9, ans := 0 })
    else if o.ph = 3 then (if ws.getD 0 0 = o.saw then (if min ba o.saw = 1 then { o with ph := 9, ans := 1 } else { o with ph := 4, hand := min ba o.saw - 1 }) else { o with ph := 2 })
    else { o with ph := 9, ans := 1 }
  else if o.k = 2 then
    if o.ph = 0 then (if 0 < ws.getD (o.wk + 1) 0 then { o with ph := 1, hand := ws.getD (o.wk + 1) 0 } else { o with ph := 9, ans := 0 })
    else { o with ph := 9, ans := IntKind.i64.wrap o.hand }
  else if o.c + 1 = ws.length then { o with ph := 9, c := o.c + 1, sum := IntKind.u64.wrap (o.sum + ws.getD o.c 0), ans := IntKind.i64.wrap (IntKind.u64.wrap (o.sum + ws.getD o.c 0)) }
  else { o with c := o.c + 1, sum := IntKind.u64.wrap (o.sum + ws.getD o.c 0) }
def stepBW (ba : Int) (ws : List Int) (o : OpB) : List Int :=
  if o.ph = 9 then ws
  else if o.k = 1 then
    if o.ph = 1 then (if ws.getD (o.wk + 1) 0 = o.saw then ws.set (o.wk + 1) (o.saw - 1) else ws)
    else if o.ph = 3 then (if ws.getD 0 0 = o.saw then ws.set 0 (o.saw - min ba o.saw) else ws)
    else if o.ph = 4 then ws.set (o.wk + 1) (IntKind.u64.wrap (ws.getD (o.wk + 1) 0 + o.hand))
    else ws
  else if o.k = 2 then
    if o.ph = 0 then ws.set (o.wk + 1) 0
    else ws.set 0 (IntKind.u64.wrap (ws.getD 0 0 + o.hand))
  else ws
/-- what an action did: its five cells -/
def didB (ba : Int) (ws : List Int) (o : OpB) : Int × Int × Int × Int × Bool :=
  if o.ph = 9 then (0, 0, 0, 0, false)
  else if o.k = 1 then
    if o.ph = 0 then (1, ((o.wk + 1 : Nat) : Int), ws.getD (o.wk + 1) 0, ws.getD (o.wk + 1) 0, true)
    else if o.ph = 1 then (if ws.getD (o.wk + 1) 0 = o.saw then (5, ((o.wk + 1 : Nat) : Int), o.saw, o.saw - 1, true) else (5, ((o.wk + 1 : Nat) : Int), ws.getD (o.wk + 1) 0, ws.getD (o.wk + 1) 0, false))
    else if o.ph = 2 then (1, 0, ws.getD 0 0, ws.getD 0 0, true)
    else if o.ph = 3 then (if ws.getD 0 0 = o.saw then (5, 0, o.saw, o.saw - min ba o.saw, true) else (5, 0, ws.getD 0 0, ws.getD 0 0, false))
    else (3, ((o.wk + 1 : Nat) : Int), ws.getD (o.wk + 1) 0, IntKind.u64.wrap (ws.getD (o.wk + 1) 0 + o.hand), true)
  else if o.k = 2 then
    if o.ph = 0 then (4, ((o.wk + 1 : Nat) : Int), ws.getD (o.wk + 1) 0, 0, true)
    else (3, 0, ws.getD 0 0, IntKind.u64.wrap (ws.getD 0 0 + o.hand), true)
  else (1, (o.c : Int), ws.getD o.c 0, ws.getD o.c 0, true)
def didV (d : Int × Int × Int × Int × Bool) : Value := .agg #[.int .u8 d.1, .int .i64 d.2.1, .int .u64 d.2.2.1, .int .u64 d.2.2.2.1, .bool d.2.2.2.2]
/-- the function that comes next -/
def nxB (o : OpB) : Value :=
  if o.ph = 9 then .nilFunc
  else if o.k = 1 then
    if o.ph = 0 then fnV 36 else if o.ph = 1 then fnV 63 else if o.ph = 2 then fnV 64 else if o.ph = 3 then fnV 88 else fnV 105
  else if o.k = 2 then (if o.ph = 0 then fnV 37 else fnV 65)
  else fnV 38
def rowB (bq : Nat) (o : OpB) : List Value := pendB bq ((o.wk + 1 : Nat) : Int) (nxB o) o.saw o.hand (o.c : Int) o.sum o.ans
/-- an operation that may be under way, on n cells -/
def OkB (n : Nat) (o : OpB) : Prop :=
  (o.k = 1 ∧ o.wk + 1 < n ∧ (o.ph = 9 ∨ o.ph = 0 ∨ (o.ph = 1 ∧ 0 < o.saw ∧ U64 o.saw) ∨ o.ph = 2 ∨ (o.ph = 3 ∧ 0 < o.saw ∧ U64 o.saw) ∨ o.ph = 4)) ∨ (o.k = 2 ∧ o.wk + 1 < n ∧ (o.ph = 9 ∨ o.ph = 0 ∨ o.ph = 1)) ∨ (o.k = 3 ∧ o.wk = 0 ∧ (o.ph = 9 ∨ (o.ph = 0 ∧ o.c < n)))
/-- what a step leaves of an operation -/
def SteppedO (w : World) (bq bk bw bp : Nat) (ba : Int) (ws : List Int) (o : OpB) (e : Ending) (w' : World) : Prop :=
  e = .returned (.tuple #[didV (didB ba ws o), .bool (decide ((stepB ba ws o).ph = 9))]) ∧ QuoM w' bq bk bw ba (stepBW ba ws o) ∧ Row w' bp 97 (rowB bq (stepB ba ws o)) ∧ Part [bw, bp] w w'
theorem stepBW_length (ba : Int) (ws : List Int) (o : OpB) : (stepBW ba ws o).length = ws.length := by
  unfold stepBW
  repeat' split
  all_goals simp
theorem getD_of {ws : List Int} {i : Nat} {x : Int} (h : ws[i]? = some x) : ws.getD i 0 = x := by simp [List.getD, h]
section
variable {w : World} {bq bk bw bp : Nat} {ba : Int} {ws ws' : List Int} {o o' : OpB} {l l0 : List Value} {x0 x1 x2 x3 : Int} {x4 b : Bool}
theorem stepped_o (h : QuoM w bq bk bw ba ws) (hp : Row w bp 97 l0) (hs : stepB ba ws o = o') (hw : stepBW ba ws o = ws') (hd : didB ba ws o = (x0, x1, x2, x3, x4)) (hb : decide (o'.ph = 9) = b) (hl : l = rowB bq o') :
    ∀ e w', SteppedB w bk bw bp ws' l (.tuple #[.agg #[.int .u8 x0, .int .i64 x1, .int .u64 x2, .int .u64 x3, .bool x4], .bool b]) e w' → SteppedO w bq bk bw bp ba ws o e w' := by
  rintro e w' ⟨he, hW, hR, hP⟩
  have hlen := stepBW_length ba ws o
  rw [hw] at hlen
  subst hl
  refine ⟨?_, ?_, ?_, hP⟩
  · rw [hd, hs, hb]; exact he
  · rw [hw]
    exact ⟨h.head.part hP (by simp; exact ⟨h.ne, h.head.ne hp (by decide)⟩), hW, by rw [hlen]; exact h.least, by rw [hlen]; exact h.top, h.lowb, h.topb⟩
  · rw [hs]; exact hR
end
set_option maxHeartbeats 1600000
section
variable {w : World} {bq bk bw bp : Nat} {ba : Int} {ws : List Int} {wk c : Nat} {saw hand sum ans x : Int}
theorem bo_look_some (h : QuoM w bq bk bw ba ws) (hp : Row w bp 97 (rowB bq ⟨1, wk, 0, saw, hand, c, sum, ans⟩)) {x : Int} (hx : ws[wk + 1]? = some x) (hz : 0 < x) : Calls Tryd.prog 9 #[.pointer (some ⟨bp, 0, none⟩)] w (SteppedO w bq bk bw bp ba ws ⟨1, wk, 0, saw, hand, c, sum, ans⟩) := by
  exact (bstep_look_false h.words hp (blook_some (h.alloc _) hx (by simpa using hz) (hp.alloc _))).mono (stepped_o h hp (o' := ⟨1, wk, 1, x, hand, c, sum, ans⟩) (ws' := ws) (by simp [stepB, hx, hz]) (by simp [stepBW, hx, hz]) (by simp [didB, hx, hz]) (by simp) rfl)
theorem bo_look_none (h : QuoM w bq bk bw ba ws) (hp : Row w bp 97 (rowB bq ⟨1, wk, 0, saw, hand, c, sum, ans⟩)) {x : Int} (hx : ws[wk + 1]? = some x) (hz : ¬ 0 < x) : Calls Tryd.prog 9 #[.pointer (some ⟨bp, 0, none⟩)] w (SteppedO w bq bk bw bp ba ws ⟨1, wk, 0, saw, hand, c, sum, ans⟩) := by
  exact (bstep_look_false h.words hp (blook_none (h.alloc _) hx (by simpa using hz) (hp.alloc _))).mono (stepped_o h hp (o' := ⟨1, wk, 2, saw, hand, c, sum, ans⟩) (ws' := ws) (by simp [stepB, hx, hz]) (by simp [stepBW, hx, hz]) (by simp [didB, hx, hz]) (by simp) rfl)
theorem bo_spend_hit (h : QuoM w bq bk bw ba ws) (hp : Row w bp 97 (rowB bq ⟨1, wk, 1, saw, hand, c, sum, ans⟩)) (hx : ws[wk + 1]? = some saw) (hz : 0 < saw) (hu : U64 saw) : Calls Tryd.prog 9 #[.pointer (some ⟨bp, 0, none⟩)] w (SteppedO w bq bk bw bp ba ws ⟨1, wk, 1, saw, hand, c, sum, ans⟩) := by
  have hs : IntKind.u64.wrap (saw - 1) = saw - 1 := by unfold U64 at hu; rw [IntKind.wrap_u64]; omega
  have hy : U64 (saw - 1) := by unfold U64 at hu ⊢; omega
  exact (bstep_spend_true h.words hp (bspend_hit (h.alloc _) hx hs hy (hp.alloc _))).mono (stepped_o h hp (o' := ⟨1, wk, 9, saw, hand, c, sum, 1⟩) (ws' := (ws.set (wk + 1) (saw - 1))) (by simp [stepB, hx]) (by simp [stepBW, hx]) (by simp [didB, hx]) (by simp) rfl)
theorem bo_spend_miss (h : QuoM w bq bk bw ba ws) (hp : Row w bp 97 (rowB bq ⟨1, wk, 1, saw, hand, c, sum, ans⟩)) {x : Int} (hx : ws[wk + 1]? = some x) (hne : ¬ x = saw) : Calls Tryd.prog 9 #[.pointer (some ⟨bp, 0, none⟩)] w (SteppedO w bq bk bw bp ba ws ⟨1, wk, 1, saw, hand, c, sum, ans⟩) := by
  exact (bstep_spend_false h.words hp (bspend_miss (h.alloc _) hx rfl hne (hp.alloc _))).mono (stepped_o h hp (o' := ⟨1, wk, 0, saw, hand, c, sum, ans⟩) (ws' := ws) (by simp [stepB, hx, hne]) (by simp [stepBW, hx, hne]) (by simp [didB, hx, hne]) (by simp) rfl)
theorem bo_pool_some (h : QuoM w bq bk bw ba ws) (hp : Row w bp 97 (rowB bq ⟨1, wk, 2, saw, hand, c, sum, ans⟩)) {x : Int} (hx : ws[0]? = some x) (hz : 0 < x) : Calls Tryd.prog 9 #[.pointer (some ⟨bp, 0, none⟩)] w (SteppedO w bq bk bw bp ba ws ⟨1, wk, 2, saw, hand, c, sum, ans⟩) := by
  exact (bstep_lookAtPool_false h.words hp (bpool_some (h.alloc _) hx (by simpa using hz) (hp.alloc _))).mono (stepped_o h hp (o' := ⟨1, wk, 3, x, hand, c, sum, ans⟩) (ws' := ws) (by simp [stepB, hx, hz]) (by simp [stepBW, hx, hz]) (by simp [didB, hx, hz]) (by simp) rfl)
theorem bo_pool_none (h : QuoM w bq bk bw ba ws) (hp : Row w bp 97 (rowB bq ⟨1, wk, 2, saw, hand, c, sum, ans⟩)) {x : Int} (hx : ws[0]? = some x) (hz : ¬ 0 < x) : Calls Tryd.prog 9 #[.pointer (some ⟨bp, 0, none⟩)] w (SteppedO w bq bk bw bp ba ws ⟨1, wk, 2, saw, hand, c, sum, ans⟩) := by
  exact (bstep_lookAtPool_true h.words hp (bpool_none (h.alloc _) hx (by simpa using hz) (hp.alloc _))).mono (stepped_o h hp (o' := ⟨1, wk, 9, saw, hand, c, sum, 0⟩) (ws' := ws) (by simp [stepB, hx, hz]) (by simp [stepBW, hx, hz]) (by simp [didB, hx, hz]) (by simp) rfl)
theorem bo_borrow_miss (h : QuoM w bq bk bw ba ws) (hp : Row w bp 97 (rowB bq ⟨1, wk, 3, saw, hand, c, sum, ans⟩)) {x : Int} (hx : ws[0]? = some x) (hne : ¬ x = saw) : Calls Tryd.prog 9 #[.pointer (some ⟨bp, 0, none⟩)] w (SteppedO w bq bk bw bp ba ws ⟨1, wk, 3, saw, hand, c, sum, ans⟩) := by
  exact (bstep_borrow_false h.words hp (bborrow_miss (h.alloc _) rfl rfl hx hne (hp.alloc _))).mono (stepped_o h hp (o' := ⟨1, wk, 2, saw, hand, c, sum, ans⟩) (ws' := ws) (by simp [stepB, hx, hne]) (by simp [stepBW, hx, hne]) (by simp [didB, hx, hne]) (by simp) rfl)
theorem bo_borrow_one (h : QuoM w bq bk bw ba ws) (hp : Row w bp 97 (rowB bq ⟨1, wk, 3, saw, hand, c, sum, ans⟩)) (hx : ws[0]? = some saw) (hz : 0 < saw) (hu : U64 saw) (h1 : min ba saw = 1) : Calls Tryd.prog 9 #[.pointer (some ⟨bp, 0, none⟩)] w (SteppedO w bq bk bw bp ba ws ⟨1, wk, 3, saw, hand, c, sum, ans⟩) := by
  have hb1 := h.lowb
  have hb2 := h.topb
  have hs : IntKind.u64.wrap (saw - min ba saw) = saw - min ba saw := by unfold U64 at hu; rw [IntKind.wrap_u64]; omega
  have hy : U64 (saw - min ba saw) := by unfold U64 at hu ⊢; omega
  exact (bstep_borrow_true h.words hp (bborrow_one (h.alloc _) rfl hs hx hy (by simpa using h1) (hp.alloc _))).mono (stepped_o h hp (o' := ⟨1, wk, 9, saw, hand, c, sum, 1⟩) (ws' := (ws.set 0 (saw - min ba saw))) (by simp [stepB, hx, h1]) (by simp [stepBW, hx, h1]) (by simp [didB, hx, h1]) (by simp) rfl)
theorem bo_borrow_more (h : QuoM w bq bk bw ba ws) (hp : Row w bp 97 (rowB bq ⟨1, wk, 3, saw, hand, c, sum, ans⟩)) (hx : ws[0]? = some saw) (hz : 0 < saw) (hu : U64 saw) (h1 : ¬ min ba saw = 1) : Calls Tryd.prog 9 #[.pointer (some ⟨bp, 0, none⟩)] w (SteppedO w bq bk bw bp ba ws ⟨1, wk, 3, saw, hand, c, sum, ans⟩) := by
  have hb1 := h.lowb
  have hb2 := h.topb
  have hs : IntKind.u64.wrap (saw - min ba saw) = saw - min ba saw := by unfold U64 at hu; rw [IntKind.wrap_u64]; omega
  have hy : U64 (saw - min ba saw) := by unfold U64 at hu ⊢; omega
  have hm : IntKind.u64.wrap (min ba saw - 1) = min ba saw - 1 := by unfold U64 at hu; rw [IntKind.wrap_u64]; omega
  exact (bstep_borrow_false h.words hp (bborrow_more (h.alloc _) rfl hs hx hy (by simpa using h1) hm (hp.alloc _))).mono (stepped_o h hp (o' := ⟨1, wk, 4, saw, min ba saw - 1, c, sum, ans⟩) (ws' := (ws.set 0 (saw - min ba saw))) (by simp [stepB, hx, h1]) (by simp [stepBW, hx, h1]) (by simp [didB, hx, h1]) (by simp) rfl)
theorem bo_hold (h : QuoM w bq bk bw ba ws) (hp : Row w bp 97 (rowB bq ⟨1, wk, 4, saw, hand, c, sum, ans⟩)) {x : Int} (hx : ws[wk + 1]? = some x) : Calls Tryd.prog 9 #[.pointer (some ⟨bp, 0, none⟩)] w (SteppedO w bq bk bw bp ba ws ⟨1, wk, 4, saw, hand, c, sum, ans⟩) := by
  exact (bstep_hold_true h.words hp (bhold_any (h.alloc _) hx (hp.alloc _))).mono (stepped_o h hp (o' := ⟨1, wk, 9, saw, hand, c, sum, 1⟩) (ws' := (ws.set (wk + 1) (IntKind.u64.wrap (x + hand)))) (by simp [stepB, hx]) (by simp [stepBW, hx]) (by simp [didB, hx]) (by simp) rfl)
theorem bo_empty_some (h : QuoM w bq bk bw ba ws) (hp : Row w bp 97 (rowB bq ⟨2, wk, 0, saw, hand, c, sum, ans⟩)) {x : Int} (hx : ws[wk + 1]? = some x) (hz : 0 < x) : Calls Tryd.prog 9 #[.pointer (some ⟨bp, 0, none⟩)] w (SteppedO w bq bk bw bp ba ws ⟨2, wk, 0, saw, hand, c, sum, ans⟩) := by
  exact (bstep_empty_false h.words hp (bempty_some (h.alloc _) hx (by simpa using hz) (hp.alloc _))).mono (stepped_o h hp (o' := ⟨2, wk, 1, saw, x, c, sum, ans⟩) (ws' := (ws.set (wk + 1) 0)) (by simp [stepB, hx, hz]) (by simp [stepBW, hx, hz]) (by simp [didB, hx, hz]) (by simp) rfl)
theorem bo_empty_none (h : QuoM w bq bk bw ba ws) (hp : Row w bp 97 (rowB bq ⟨2, wk, 0, saw, hand, c, sum, ans⟩)) {x : Int} (hx : ws[wk + 1]? = some x) (hz : ¬ 0 < x) : Calls Tryd.prog 9 #[.pointer (some ⟨bp, 0, none⟩)] w (SteppedO w bq bk bw bp ba ws ⟨2, wk, 0, saw, hand, c, sum, ans⟩) := by
  exact (bstep_empty_true h.words hp (bempty_none (h.alloc _) hx (by simpa using hz) (hp.alloc _))).mono (stepped_o h hp (o' := ⟨2, wk, 9, saw, hand, c, sum, 0⟩) (ws' := (ws.set (wk + 1) 0)) (by simp [stepB, hx, hz]) (by simp [stepBW, hx, hz]) (by simp [didB, hx, hz]) (by simp) rfl)
theorem bo_give (h : QuoM w bq bk bw ba ws) (hp : Row w bp 97 (rowB bq ⟨2, wk, 1, saw, hand, c, sum, ans⟩)) {x : Int} (hx : ws[0]? = some x) : Calls Tryd.prog 9 #[.pointer (some ⟨bp, 0, none⟩)] w (SteppedO w bq bk bw bp ba ws ⟨2, wk, 1, saw, hand, c, sum, ans⟩) := by
  exact (bstep_giveBack_true h.words hp (bgive_any (h.alloc _) hx rfl (hp.alloc _))).mono (stepped_o h hp (o' := ⟨2, wk, 9, saw, hand, c, sum, IntKind.i64.wrap hand⟩) (ws' := (ws.set 0 (IntKind.u64.wrap (x + hand)))) (by simp [stepB, hx]) (by simp [stepBW, hx]) (by simp [didB, hx]) (by simp) rfl)
theorem bo_gather_more (h : QuoM w bq bk bw ba ws) (hp : Row w bp 97 (rowB bq ⟨3, wk, 0, saw, hand, c, sum, ans⟩)) {x : Int} (hx : ws[c]? = some x) (hn : c + 1 < ws.length) : Calls Tryd.prog 9 #[.pointer (some ⟨bp, 0, none⟩)] w (SteppedO w bq bk bw bp ba ws ⟨3, wk, 0, saw, hand, c, sum, ans⟩) := by
  have hn2 : ¬ c + 1 = ws.length := by omega
  exact (bstep_gather_false h.words hp (bgather_more (h.alloc _) hx hn (hp.alloc _))).mono (stepped_o h hp (o' := ⟨3, wk, 0, saw, hand, c + 1, IntKind.u64.wrap (sum + x), ans⟩) (ws' := ws) (by simp [stepB, hx, hn2]) (by simp [stepBW, hx, hn2]) (by simp [didB, hx, hn2]) (by simp) rfl)
theorem bo_gather_last (h : QuoM w bq bk bw ba ws) (hp : Row w bp 97 (rowB bq ⟨3, wk, 0, saw, hand, c, sum, ans⟩)) {x : Int} (hx : ws[c]? = some x) (hn : c + 1 = ws.length) : Calls Tryd.prog 9 #[.pointer (some ⟨bp, 0, none⟩)] w (SteppedO w bq bk bw bp ba ws ⟨3, wk, 0, saw, hand, c, sum, ans⟩) := by
  exact (bstep_gather_true h.words hp (bgather_last (h.alloc _) hx hn rfl (hp.alloc _))).mono (stepped_o h hp (o' := ⟨3, wk, 9, saw, hand, c + 1, IntKind.u64.wrap (sum + x), IntKind.i64.wrap (IntKind.u64.wrap (sum + x))⟩) (ws' := ws) (by simp [stepB, hx, hn]) (by simp [stepBW, hx, hn]) (by simp [didB, hx, hn]) (by simp) rfl)
theorem bo_over {o : OpB} (h : QuoM w bq bk bw ba ws) (hp : Row w bp 97 (rowB bq o)) (ho : o.ph = 9) : Calls Tryd.prog 9 #[.pointer (some ⟨bp, 0, none⟩)] w (SteppedO w bq bk bw bp ba ws o) := by
  have hp' : Row w bp 97 (pendB bq ((o.wk + 1 : Nat) : Int) .nilFunc o.saw o.hand (o.c : Int) o.sum o.ans) := by
    have e : nxB o = .nilFunc := by simp [nxB, ho]
    unfold rowB at hp; rwa [e] at hp
  refine (bstep_over hp').mono ?_
  rintro e w' ⟨he, hb⟩
  have e1 : stepB ba ws o = o := by simp [stepB, ho]
  have e2 : stepBW ba ws o = ws := by simp [stepBW, ho]
  have e3 : didB ba ws o = (0, 0, 0, 0, false) := by simp [didB, ho]
  refine ⟨?_, ?_, ?_, Part.of_below hb (Nat.le_refl _) _⟩
  · rw [e1, e3, ho]; exact he
  · rw [e2]; exact h.on hb
  · rw [e1]; exact hp.below hb hp.lt
end
/-- Step as one contract -/
theorem bstep_op {w : World} {bq bk bw bp : Nat} {ba : Int} {ws : List Int} {o : OpB} (h : QuoM w bq bk bw ba ws) (hp : Row w bp 97 (rowB bq o)) (ho : OkB ws.length o) : Calls Tryd.prog 9 #[.pointer (some ⟨bp, 0, none⟩)] w (SteppedO w bq bk bw bp ba ws o) := by
  by_cases h9 : o.ph = 9
  · exact bo_over h hp h9
  have hl := h.least
  have get : ∀ i, i < ws.length → ∃ x, ws[i]? = some x := fun i hi => ⟨_, List.getElem?_eq_getElem hi⟩
  obtain ⟨k, wk, ph, saw, hand, c, sum, ans⟩ := o
  dsimp only at h9
  rcases ho with ⟨a, b, hh⟩ | ⟨a, b, hh⟩ | ⟨a, b, hh⟩
  · dsimp only at a b hh
    subst a
    obtain ⟨x, hx⟩ := get _ b
    obtain ⟨y, hy⟩ := get 0 (by omega)
    rcases hh with hh | rfl | ⟨rfl, hz, hu⟩ | rfl | ⟨rfl, hz, hu⟩ | rfl
    · exact absurd hh h9
    · by_cases hz : 0 < x
      · exact bo_look_some h hp hx hz
      · exact bo_look_none h hp hx hz
    · by_cases e : x = saw
      · subst e; exact bo_spend_hit h hp hx hz hu
      · exact bo_spend_miss h hp hx e
    · by_cases hz : 0 < y
      · exact bo_pool_some h hp hy hz
      · exact bo_pool_none h hp hy hz
    · by_cases e : y = saw
      · subst e
        by_cases h1 : min ba y = 1
        · exact bo_borrow_one h hp hy hz hu h1
        · exact bo_borrow_more h hp hy hz hu h1
      · exact bo_borrow_miss h hp hy e
    · exact bo_hold h hp hx
  · dsimp only at a b hh
    subst a
    obtain ⟨x, hx⟩ := get _ b
    obtain ⟨y, hy⟩ := get 0 (by omega)
    rcases hh with hh | rfl | rfl
    · exact absurd hh h9
    · by_cases hz : 0 < x
      · exact bo_empty_some h hp hx hz
      · exact bo_empty_none h hp hx hz
    · exact bo_give h hp hy
  · dsimp only at a b hh
    subst a
    rcases hh with hh | ⟨rfl, hc⟩
    · exact absurd hh h9
    · obtain ⟨x, hx⟩ := get _ hc
      by_cases e : c + 1 = ws.length
      · exact bo_gather_last h hp hx e
      · exact bo_gather_more h hp hx (by omega)
/-- an operation stays one that may be -/
theorem OkB.step {ba : Int} {ws : List Int} {o : OpB} (h : OkB ws.length o) (hu : ∀ x ∈ ws, U64 x) (hl : 2 ≤ ws.length) : OkB ws.length (stepB ba ws o) := by
  by_cases h9 : o.ph = 9
  · rw [show stepB ba ws o = o by simp [stepB, h9]]; exact h
  have get : ∀ i, i < ws.length → ∃ x, ws[i]? = some x ∧ U64 x := fun i hi => ⟨ws[i], List.getElem?_eq_getElem hi, hu _ (List.getElem_mem hi)⟩
  obtain ⟨k, wk, ph, saw, hand, c, sum, ans⟩ := o
  dsimp only at h9
  rcases h with ⟨a, b, hh⟩ | ⟨a, b, hh⟩ | ⟨a, b, hh⟩
  · dsimp only at a b hh
    subst a
    obtain ⟨x, hx, ux⟩ := get _ b
    obtain ⟨y, hy, uy⟩ := get 0 (by omega)
    rcases hh with hh | rfl | ⟨rfl, hz, hu⟩ | rfl | ⟨rfl, hz, hu⟩ | rfl
    · exact absurd hh h9
    · by_cases hz : 0 < x
      · rw [show stepB ba ws ⟨1, wk, 0, saw, hand, c, sum, ans⟩ = ⟨1, wk, 1, x, hand, c, sum, ans⟩ by simp [stepB, hx, hz]]; exact .inl ⟨rfl, b, .inr (.inr (.inl ⟨rfl, hz, ux⟩))⟩
      · rw [show stepB ba ws ⟨1, wk, 0, saw, hand, c, sum, ans⟩ = ⟨1, wk, 2, saw, hand, c, sum, ans⟩ by simp [stepB, hx, hz]]; exact .inl ⟨rfl, b, .inr (.inr (.inr (.inl rfl)))⟩
    · by_cases e : x = saw
      · rw [show stepB ba ws ⟨1, wk, 1, saw, hand, c, sum, ans⟩ = ⟨1, wk, 9, saw, hand, c, sum, 1⟩ by simp [stepB, hx, e]]; exact .inl ⟨rfl, b, .inl rfl⟩
      · rw [show stepB ba ws ⟨1, wk, 1, saw, hand, c, sum, ans⟩ = ⟨1, wk, 0, saw, hand, c, sum, ans⟩ by simp [stepB, hx, e]]; exact .inl ⟨rfl, b, .inr (.inl rfl)⟩
    · by_cases hz : 0 < y
      · rw [show stepB ba ws ⟨1, wk, 2, saw, hand, c, sum, ans⟩ = ⟨1, wk, 3, y, hand, c, sum, ans⟩ by simp [stepB, hy, hz]]; exact .inl ⟨rfl, b, .inr (.inr (.inr (.inr (.inl ⟨rfl, hz, uy⟩))))⟩
      · rw [show stepB ba ws ⟨1, wk, 2, saw, hand, c, sum, ans⟩ = ⟨1, wk, 9, saw, hand, c, sum, 0⟩ by simp [stepB, hy, hz]]; exact .inl ⟨rfl, b, .inl rfl⟩
    · by_cases e : y = saw
      · by_cases h1 : min ba saw = 1
        · rw [show stepB ba ws ⟨1, wk, 3, saw, hand, c, sum, ans⟩ = ⟨1, wk, 9, saw, hand, c, sum, 1⟩ by simp [stepB, hy, e, h1]]; exact .inl ⟨rfl, b, .inl rfl⟩
        · rw [show stepB ba ws ⟨1, wk, 3, saw, hand, c, sum, ans⟩ = ⟨1, wk, 4, saw, min ba saw - 1, c, sum, ans⟩ by simp [stepB, hy, e, h1]]; exact .inl ⟨rfl, b, .inr (.inr (.inr (.inr (.inr rfl))))⟩
      · rw [show stepB ba ws ⟨1, wk, 3, saw, hand, c, sum, ans⟩ = ⟨1, wk, 2, saw, hand, c, sum, ans⟩ by simp [stepB, hy, e]]; exact .inl ⟨rfl, b, .inr (.inr (.inr (.inl rfl)))⟩
    · rw [show stepB ba ws ⟨1, wk, 4, saw, hand, c, sum, ans⟩ = ⟨1, wk, 9, saw, hand, c, sum, 1⟩ by simp [stepB]]; exact .inl ⟨rfl, b, .inl rfl⟩
  · dsimp only at a b hh
    subst a
    obtain ⟨x, hx, ux⟩ := get _ b
    rcases hh with hh | rfl | rfl
    · exact absurd hh h9
    · by_cases hz : 0 < x
      · rw [show stepB ba ws ⟨2, wk, 0, saw, hand, c, sum, ans⟩ = ⟨2, wk, 1, saw, x, c, sum, ans⟩ by simp [stepB, hx, hz]]; exact .inr (.inl ⟨rfl, b, .inr (.inr rfl)⟩)
      · rw [show stepB ba ws ⟨2, wk, 0, saw, hand, c, sum, ans⟩ = ⟨2, wk, 9, saw, hand, c, sum, 0⟩ by simp [stepB, hx, hz]]; exact .inr (.inl ⟨rfl, b, .inl rfl⟩)
    · rw [show stepB ba ws ⟨2, wk, 1, saw, hand, c, sum, ans⟩ = ⟨2, wk, 9, saw, hand, c, sum, IntKind.i64.wrap hand⟩ by simp [stepB]]; exact .inr (.inl ⟨rfl, b, .inl rfl⟩)
  · dsimp only at a b hh
    subst a
    rcases hh with hh | ⟨rfl, hc⟩
    · exact absurd hh h9
    · by_cases e : c + 1 = ws.length
      · rw [show stepB ba ws ⟨3, wk, 0, saw, hand, c, sum, ans⟩ = ⟨3, wk, 9, saw, hand, c + 1, IntKind.u64.wrap (sum + ws.getD c 0), IntKind.i64.wrap (IntKind.u64.wrap (sum + ws.getD c 0))⟩ by simp [stepB, e]]; exact .inr (.inr ⟨rfl, b, .inl rfl⟩)
      · rw [show stepB ba ws ⟨3, wk, 0, saw, hand, c, sum, ans⟩ = ⟨3, wk, 0, saw, hand, c + 1, IntKind.u64.wrap (sum + ws.getD c 0), ans⟩ by simp [stepB, e]]; exact .inr (.inr ⟨rfl, b, .inr ⟨rfl, by dsimp only; omega⟩⟩)
theorem nxB_nil {o : OpB} (h : o.ph = 9) : nxB o = .nilFunc := by simp [nxB, h]
theorem nxB_fn {o : OpB} (h : ¬ o.ph = 9) : ∃ f, nxB o = fnV f := by
  unfold nxB
  rw [if_neg h]
  repeat' split
  all_goals exact ⟨_, rfl⟩
section
variable {w : World} {bq bp : Nat} {o : OpB}
theorem bdone_op (hp : Row w bp 97 (rowB bq o)) : Calls Tryd.prog 11 #[.pointer (some ⟨bp, 0, none⟩)] w fun e w' => e = .returned (.bool (decide (o.ph = 9))) ∧ w = w' := by
  unfold rowB at hp
  by_cases h : o.ph = 9
  · rw [nxB_nil h] at hp
    rw [show decide (o.ph = 9) = true by simpa using h]
    exact bdone_yes hp
  · obtain ⟨f, hf⟩ := nxB_fn h
    rw [hf] at hp
    rw [show decide (o.ph = 9) = false by simpa using h]
    exact bdone_no hp
theorem banswer_op (hp : Row w bp 97 (rowB bq o)) : Calls Tryd.prog 10 #[.pointer (some ⟨bp, 0, none⟩)] w fun e w' => e = .returned (.int .i64 o.ans) ∧ w = w' := banswer_any hp
end
end Go.Proofs.YteoekkhgpdhnhaaDoor

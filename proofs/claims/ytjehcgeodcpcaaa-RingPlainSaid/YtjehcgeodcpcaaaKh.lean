/- AN OPERATION OF A RING, IN PLAIN WORDS: what each of its steps does; and Step as one contract. -/
import Derived.Test.YtjehcgeodcpcaaaKe
import Derived.Test.YtjehcgeodcpcaaaKf
import Derived.Test.YtjehcgeodcpcaaaKg
namespace Go.Proofs.Ytjehcgeodcpcaaa
open Go Go.RowKit

/-- k: 1 an add, 2 a sum; q: its tick; ph 0: an action comes, 1: it has loaded, and puts, 2: it has ended; cur: the tick whose cell is next -/
structure OpN where
  k : Int
  q : Nat
  n : Int
  ph : Nat
  cur : Nat
  saw : Int
  put : Int
  ans : Int
  why : Int
def cellN (ws : List Int) (t : Nat) : Int := ws.getD (t % ws.length) 0
def newN (len : Nat) (k : Int) (q : Nat) (n : Int) : OpN := ⟨k, q, n, 0, if k = 1 then q else q + 1 - len, 0, 0, 0, 0⟩
def stepN (ws : List Int) (o : OpN) : OpN :=
  if o.ph = 0 then
    if o.k = 1 then
      if (o.cur : Int) < cellN ws o.cur / 4294967296 then { o with ph := 2, ans := 0, why := 50 }
      else if 4294967295 < cntN (cellN ws o.cur) (o.cur : Int) + o.n then { o with ph := 2, ans := 0, why := 51 }
      else { o with ph := 1, saw := cellN ws o.cur, put := wordN (o.cur : Int) (cntN (cellN ws o.cur) (o.cur : Int) + o.n), ans := cntN (cellN ws o.cur) (o.cur : Int) + o.n }
    else if o.cur = o.q then { o with ph := 2, ans := o.ans + cntN (cellN ws o.cur) (o.cur : Int), why := 0 }
    else { o with cur := o.cur + 1, ans := o.ans + cntN (cellN ws o.cur) (o.cur : Int) }
  else if o.ph = 1 then (if cellN ws o.cur = o.saw then { o with ph := 2, why := 0 } else { o with ph := 0 })
  else o
def stepNW (ws : List Int) (o : OpN) : List Int := if o.ph = 1 ∧ cellN ws o.cur = o.saw then ws.set (o.cur % ws.length) o.put else ws
def didN (ws : List Int) (o : OpN) : Value :=
  if o.ph = 0 then .agg #[.int .u8 1, .int .i64 ((o.cur % ws.length : Nat) : Int), .int .u64 (cellN ws o.cur), .int .u64 (cellN ws o.cur), .bool true]
  else if o.ph = 1 then (if cellN ws o.cur = o.saw then .agg #[.int .u8 5, .int .i64 ((o.cur % ws.length : Nat) : Int), .int .u64 (cellN ws o.cur), .int .u64 o.put, .bool true] else .agg #[.int .u8 5, .int .i64 ((o.cur % ws.length : Nat) : Int), .int .u64 (cellN ws o.cur), .int .u64 (cellN ws o.cur), .bool false])
  else .agg #[.int .u8 0, .int .i64 0, .int .u64 0, .int .u64 0, .bool false]
/-- an operation that may be -/
def RightN (k : Int) (q : Nat) (n : Int) : Prop := q ≤ 4294967295 ∧ 0 ≤ n ∧ n ≤ 4294967295 ∧ (k = 1 ∨ k = 2)
/-- an operation under way that is well -/
structure OkN (o : OpN) : Prop where
  kind : o.k = 1 ∨ o.k = 2
  top : o.q ≤ 4294967295
  cur : o.cur ≤ o.q
  add : o.k = 1 → o.cur = o.q
  num : 0 ≤ o.n ∧ o.n ≤ 4294967295
  ph : o.ph ≤ 2
  one : o.ph = 1 → o.k = 1 ∧ U64 o.put
  sum : o.k = 2 → o.ph = 0 → 0 ≤ o.ans ∧ o.ans + ((o.q - o.cur : Nat) : Int) * 4294967296 ≤ 17587891077120
theorem cellN_get {ws : List Int} (h : 0 < ws.length) (t : Nat) : ws[t % ws.length]? = some (cellN ws t) := by
  have hl : t % ws.length < ws.length := Nat.mod_lt _ h
  unfold cellN
  rw [List.getD_eq_getElem?_getD, List.getElem?_eq_getElem hl]
  rfl
theorem Words.cell64 {w : World} {bk bw : Nat} {ws : List Int} (h : Words w bk bw ws) (h0 : 0 < ws.length) (t : Nat) : U64 (cellN ws t) := h.ok _ (List.mem_of_getElem? (cellN_get h0 t))
theorem OkN.new {len : Nat} {k : Int} {q : Nat} {n : Int} (h : RightN k q n) (h0 : 0 < len) (h1 : len ≤ 4096) : OkN (newN len k q n) := by
  obtain ⟨a, b, c, d⟩ := h
  refine ⟨d, a, ?_, ?_, ⟨b, c⟩, by simp [newN], by simp [newN], ?_⟩
  · simp only [newN]; split <;> omega
  · intro e; simp only [newN] at e ⊢; rw [if_pos e]
  · intro e _
    simp only [newN] at e ⊢
    rw [if_neg (by omega)]
    refine ⟨by omega, ?_⟩
    omega
theorem OkN.step {ws : List Int} {o : OpN} (h : OkN o) (hw : ∀ t, U64 (cellN ws t)) : OkN (stepN ws o) := by
  obtain ⟨h1, h2, h3, h4, h5, h6, h7, h8⟩ := h
  have c0 := cntN_lo (hw o.cur) (o.cur : Int)
  unfold stepN
  split
  · rename_i p0
    split
    · rename_i k1
      split
      · exact ⟨h1, h2, h3, h4, h5, by simp, by simp, by simp⟩
      · split
        · exact ⟨h1, h2, h3, h4, h5, by simp, by simp, by simp⟩
        · exact ⟨h1, h2, h3, h4, h5, by simp, fun _ => ⟨k1, wordN_u64 (by omega) (by omega) (by omega) (by omega)⟩, by simp⟩
    · rename_i k1
      obtain ⟨s0, s1⟩ := h8 (by omega) p0
      split
      · exact ⟨h1, h2, h3, h4, h5, by simp, by simp, by simp⟩
      · refine ⟨h1, h2, ?_, fun e => absurd e k1, h5, h6, by simp; omega, fun _ _ => ?_⟩
        · show o.cur + 1 ≤ o.q; omega
        · show 0 ≤ o.ans + cntN (cellN ws o.cur) (o.cur : Int) ∧ o.ans + cntN (cellN ws o.cur) (o.cur : Int) + ((o.q - (o.cur + 1) : Nat) : Int) * 4294967296 ≤ 17587891077120
          omega
  · split
    · rename_i p1
      obtain ⟨k1, _⟩ := h7 p1
      split
      · exact ⟨h1, h2, h3, h4, h5, by simp, by simp, by simp⟩
      · refine ⟨h1, h2, h3, h4, h5, by simp, by simp, fun e _ => ?_⟩
        exact absurd (k1.symm.trans e) (by decide)
    · exact ⟨h1, h2, h3, h4, h5, h6, h7, h8⟩
theorem stepNW_len (ws : List Int) (o : OpN) : (stepNW ws o).length = ws.length := by unfold stepNW; split <;> simp
/-- the cells of an operation -/
def nxN (o : OpN) : Value := if o.ph = 0 then (if o.k = 1 then fnV 27 else fnV 29) else if o.ph = 1 then fnV 39 else .nilFunc
def opNL (br : Nat) (o : OpN) : List Value := pendN br (o.cur : Int) (o.q : Int) o.n o.saw o.put (nxN o) o.ans o.why
/-- what a step leaves -/
def StepsN (w : World) (br bk bw bp : Nat) (wd : Int) (ws : List Int) (o : OpN) (v : Value) (e : Ending) (w' : World) : Prop := e = .returned v ∧ Rng w' br bk bw wd ws ∧ Row w' bp 77 (opNL br o) ∧ Part [bw, bp] w w'
theorem SteppedN.steps {w w' : World} {br bk bw bp : Nat} {wd : Int} {ws ws' ws'' : List Int} {o : OpN} {l : List Value} {v v' : Value} {e : Ending} (h : Rng w br bk bw wd ws) (hp : Row w bp 77 l) {l' : List Value} (hs : SteppedN w bk bw bp ws' l' v e w') (hl : l' = opNL br o) (hv : v = v') (hT : ws' = ws'') (hn : ws''.length = ws.length) :
    StepsN w br bk bw bp wd ws'' o v' e w' := by
  subst hl
  subst hv
  subst hT
  obtain ⟨he, hW, hR, hP⟩ := hs
  exact ⟨he, h.next hP hW (by simp; exact ⟨h.ne, h.head.ne hp (by decide)⟩) hn, hR, hP⟩
theorem ndone_op {w : World} {bp br : Nat} {o : OpN} (h : Row w bp 77 (opNL br o)) (h2 : o.ph ≤ 2) :
    Calls Try.prog 16 #[.pointer (some ⟨bp, 0, none⟩)] w fun e w' => e = .returned (.bool (decide (o.ph = 2))) ∧ w = w' := by
  obtain ⟨k, q, n, ph, cur, saw, put, ans, why⟩ := o
  dsimp only at h2 ⊢
  match ph, h2 with
  | 0, _ =>
    unfold opNL nxN at h
    simp only [if_true] at h
    split at h
    · exact ndone_no h
    · exact ndone_no h
  | 1, _ => exact ndone_no h
  | 2, _ => exact ndone_yes h
/-- what an operation answers -/
def answerN (o : OpN) : Value := if o.ph = 2 then .tuple #[.int .u64 o.ans, .int .i64 o.why] else .tuple #[.int .u64 0, .int .i64 0]
theorem nanswer_op {w : World} {bp br : Nat} {o : OpN} (h : Row w bp 77 (opNL br o)) (h2 : o.ph ≤ 2) :
    Calls Try.prog 14 #[.pointer (some ⟨bp, 0, none⟩)] w fun e w' => e = .returned (answerN o) ∧ ∃ m, w' = w.drewN m := by
  obtain ⟨k, q, n, ph, cur, saw, put, ans, why⟩ := o
  dsimp only at h2
  match ph, h2 with
  | 0, _ =>
    unfold opNL nxN at h
    simp only [if_true] at h
    split at h
    · exact (nanswer_no h).mono fun e w' ⟨a, b⟩ => ⟨a, 0, b ▸ rfl⟩
    · exact (nanswer_no h).mono fun e w' ⟨a, b⟩ => ⟨a, 0, b ▸ rfl⟩
  | 1, _ => exact (nanswer_no h).mono fun e w' ⟨a, b⟩ => ⟨a, 0, b ▸ rfl⟩
  | 2, _ => exact nanswer_yes h
theorem nstep_op {w : World} {br bk bw bp : Nat} {wd : Int} {ws : List Int} {o : OpN} (h : Rng w br bk bw wd ws) (hp : Row w bp 77 (opNL br o)) (ho : OkN o) :
    Calls Try.prog 13 #[.pointer (some ⟨bp, 0, none⟩)] w (StepsN w br bk bw bp wd (stepNW ws o) (stepN ws o) (.tuple #[didN ws o, .bool (decide ((stepN ws o).ph = 2))])) := by
  have hl := stepNW_len ws o
  have hu := h.words.cell64 h.pos o.cur
  have hx := cellN_get h.pos o.cur
  have hc := cntN_lo hu (o.cur : Int)
  obtain ⟨h1, h2, h3, h4, h5, h6, h7, h8⟩ := ho
  obtain ⟨k, q, n, ph, cur, saw, put, ans, why⟩ := o
  dsimp only at h1 h2 h3 h4 h5 h6 h7 h8 hl hu hx hc
  have ht : cur ≤ 4294967295 := by omega
  match ph, h6 with
  | 0, _ =>
    by_cases k1 : k = 1
    · subst k1
      obtain rfl := h4 rfl
      have hp1 : Row w bp 77 (pendN br (cur : Int) (cur : Int) n saw put (fnV 27) ans why) := hp
      by_cases a : (cur : Int) < cellN ws cur / 4294967296
      · exact (nstep_load_end h hp1 fun w1 hb hr => nload_late (_P := 0) hb hr ht rfl hx hu h5.1 h5.2 rfl rfl a).mono fun e w' hs => hs.steps h hp (by simp [stepN, a, opNL, nxN]) (by simp [stepN, a, didN]) (by simp [stepNW]) hl
      · by_cases b : 4294967295 < cntN (cellN ws cur) (cur : Int) + n
        · exact (nstep_load_end h hp1 fun w1 hb hr => nload_full (_P := 0) hb hr ht rfl hx hu h5.1 h5.2 rfl rfl (by omega) b).mono fun e w' hs => hs.steps h hp (by simp [stepN, a, b, opNL, nxN]) (by simp [stepN, a, b, didN]) (by simp [stepNW]) hl
        · exact (nstep_load_swap h hp1 fun w1 hb hr => nload_go hb hr ht rfl hx hu h5.1 h5.2 rfl rfl (by omega) (by omega) rfl).mono fun e w' hs => hs.steps h hp (by simp [stepN, a, b, opNL, nxN]) (by simp [stepN, a, b, didN]) (by simp [stepNW]) hl
    · obtain ⟨s0, s1⟩ := h8 (by omega) rfl
      have s2 : ans ≤ 17592186044416 := by omega
      have hp0 : Row w bp 77 (pendN br (cur : Int) (q : Int) n saw put (fnV 29) ans why) := Row.of_eq hp (by simp [opNL, nxN, k1])
      by_cases a : cur = q
      · subst a
        exact (nstep_gather_end h hp0 fun w1 hb hr => ngather_last hb hr ht rfl hx hu s0 s2 rfl).mono fun e w' hs => hs.steps h hp (by simp [stepN, k1, opNL, nxN]) (by simp [stepN, k1, didN]) (by simp [stepNW]) hl
      · exact (nstep_gather_gather h hp0 fun w1 hb hr => ngather_more hb hr ht rfl hx hu s0 s2 rfl (by omega)).mono fun e w' hs => hs.steps h hp (by simp [stepN, k1, a, opNL, nxN]) (by simp [stepN, k1, a, didN]) (by simp [stepNW]) hl
  | 1, _ =>
    obtain ⟨rfl, hy⟩ := h7 rfl
    obtain rfl := h4 rfl
    have hp1 : Row w bp 77 (pendN br (cur : Int) (cur : Int) n saw put (fnV 39) ans why) := hp
    by_cases e : cellN ws cur = saw
    · subst e
      exact (nstep_swap_end h hp1 fun w1 hb hr => nswap_hit hb hr ht rfl hx hy).mono fun e w' hs => hs.steps h hp (by simp [stepN, opNL, nxN]) (by simp [stepN, didN]) (by simp [stepNW]) hl
    · exact (nstep_swap_load h hp1 fun w1 hb hr => nswap_miss hb hr ht rfl hx e).mono fun e' w' hs => hs.steps h hp (by simp [stepN, e, opNL, nxN]) (by simp [stepN, e, didN]) (by simp [stepNW, e]) hl
  | 2, _ =>
    exact (nstep_over hp).mono fun e w' ⟨he, hb⟩ => ⟨he, h.on hb, hp.below hb hp.lt, Part.of_below hb (Nat.le_refl _) _⟩
end Go.Proofs.Ytjehcgeodcpcaaa

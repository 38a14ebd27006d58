/- THE DOCUMENT's OWN Whole of quota. -/
import Derived.Test.YtddlalljdecdoaaBy
import Derived.Deep.LoopGhost
namespace Go.Proofs.Ytddlalljdecdoaa
open Go Go.RowKit
set_option maxRecDepth 100000
theorem set_u64 {ws : List Int} {i : Nat} {y : Int} (h : ∀ x ∈ ws, U64 x) (hy : U64 y) : ∀ x ∈ ws.set i y, U64 x := fun x hx => by
  rcases List.mem_or_eq_of_mem_set hx with e | e
  · exact h x e
  · exact e ▸ hy
theorem stepB_kw (ba : Int) (ws : List Int) (o : OpB) : (stepB ba ws o).k = o.k ∧ (stepB ba ws o).wk = o.wk := by
  unfold stepB
  repeat' split
  all_goals exact ⟨rfl, rfl⟩
/-- the record is stored into its box -/
def undSetB (w : World) (b : Nat) (k wk : Int) (u : DocU) : World := (((((((w.setCell ⟨b, 0, none⟩ (.int .u8 k)).setCell ⟨b, 1, none⟩ (.int .i64 wk)).setCell ⟨b, 2, none⟩ (.int .i64 u.at_)).setCell ⟨b, 3, none⟩ (.int .u64 u.saw)).setCell ⟨b, 4, none⟩ (.int .u64 u.hand)).setCell ⟨b, 5, none⟩ (.int .u64 u.sum)).setCell ⟨b, 6, none⟩ (.bool u.ended)).setCell ⟨b, 7, none⟩ (.int .i64 u.ans)
theorem undSetB_part (w : World) (b : Nat) (k wk : Int) (u : DocU) : Part [b] w (undSetB w b k wk u) := by
  unfold undSetB
  repeat (first | (with_reducible exact Part.refl _ _) | refine Part.set ?_ (by simp) _)
theorem undSetB_row {w : World} {b : Nat} {t : TypeId} {k wk k' wk' : Int} {v : DocU} (h : Row w b t (undB k' wk' v.at_ v.saw v.hand v.sum v.ended v.ans)) (u : DocU) : Row (undSetB w b k wk u) b t (undB k wk u.at_ u.saw u.hand u.sum u.ended u.ans) :=
  (((((((h.set 0 _).set 1 _).set 2 _).set 3 _).set 4 _).set 5 _).set 6 _).set 7 _
/-- what Whole leaves -/
def RWhole (w : World) (g : Nat) (ws : List Int) (ans : Int) (e : Ending) (w' : World) : Prop :=
  ∃ g' c, e = .returned (.tuple #[.slice (some ⟨g', 0, none⟩) ws.length c, .int .i64 ans]) ∧ (w.heap.size ≤ g' ∨ g' = g) ∧ g' < w'.heap.size ∧ Lies w' g' ws ∧ Below w.heap.size w w'
/-- in Whole's loop -/
structure WholeIB (w : World) (g N b : Nat) (ba : Int) (k : Int) (wk : Nat) (wsE : List Int) (oE : OpB) (g' : Nat) (ws : List Int) (o : OpB) (u : DocU) (j : Nat) (wr : World) : Prop where
  lies : Lies wr g' ws
  lt : g' < wr.heap.size
  old : w.heap.size ≤ g' ∨ g' = g
  off : ¬ b = g'
  len : ws.length = N
  ok : OkB ws.length o
  al : AloneB ws o
  run : runB ba j (ws, o) = (wsE, oE)
  inv : InvB o u
  us : ∀ x ∈ ws, U64 x
  hk : o.k = k
  hwk : o.wk = wk
  two : 2 ≤ N
  row : Row wr b 41 (undB k wk u.at_ u.saw u.hand u.sum u.ended u.ans)
  ge : w.heap.size ≤ b
  low : Below w.heap.size w wr
theorem WholeIB.next {w wr w3 : World} {g N b g' g2 : Nat} {ba k : Int} {wk : Nat} {ws wsE : List Int} {o oE : OpB} {u u' : DocU} {j : Nat} (h : WholeIB w g N b ba k wk wsE oE g' ws o u j wr) (hE : oE.ph = 9) (h0 : 0 < ba) (h9 : ¬ o.ph = 9) (hi : InvB (stepB ba ws o) u') (hg : wr.heap.size ≤ g2) (hg2 : g2 < w3.heap.size) (hL : Lies w3 g2 (stepBW ba ws o)) (hb : Below wr.heap.size wr w3) :
    ∃ j', WholeIB w g N b ba k wk wsE oE g2 (stepBW ba ws o) (stepB ba ws o) u' j' (undSetB w3 b k wk u') ∧ muO N (stepB ba ws o) < muO N o := by
  obtain ⟨j', rfl⟩ : ∃ j', j = j' + 1 := by
    cases j with
    | zero =>
      obtain rfl : o = oE := congrArg Prod.snd h.run
      exact absurd hE h9
    | succ j' => exact ⟨j', rfl⟩
  have hP := undSetB_part w3 b k wk u'
  have hblt := h.row.lt
  have hne : ¬ b = g2 := by omega
  have hsz := h.low.size
  refine ⟨j', ⟨?_, Nat.lt_of_lt_of_le hg2 hP.size, .inl (by omega), hne, (stepBW_length _ _ _).trans h.len, by rw [stepBW_length]; exact h.ok.step h.us (by rw [h.len]; exact h.two), h.al.step h.ok, h.run, hi, stepBW_u64 h.ok h.us h0, (stepB_kw _ _ _).1.trans h.hk, (stepB_kw _ _ _).2.trans h.hwk, h.two, undSetB_row (h.row.below hb hblt) u', h.ge, ?_⟩, by rw [← h.len]; exact muO_step h.al h.ok h9⟩
  · unfold undSetB
    repeat (first | (with_reducible exact hL) | (with_reducible refine Lies.far ?_ hne _))
  · exact (h.low.trans (hb.mono hsz)).trans (hP.below (Nat.le_trans hsz hb.size) (by simpa using h.ge))
set_option maxHeartbeats 600000
theorem dwhole_op {w : World} {g q n m : Nat} {ba : Int} {ws wsE : List Int} {k : Int} {wk : Nat} {oE : OpB} (h : Lies w g ws) (hg : g < w.heap.size) (hn : ws.length = n + 1) (hn1 : 1 ≤ n) (hl : ws.length ≤ 1000000) (hu : ∀ x ∈ ws, U64 x) (h0 : 0 < ba) (h1 : ba ≤ 1048576) (hf : FineB n k wk) (hr : runB ba m (ws, newB k wk) = (wsE, oE)) (hE : oE.ph = 9) :
    Calls Try.prog 25 #[.int .i64 ba, .slice (some ⟨g, 0, none⟩) ws.length q, .agg #[.int .u8 k, .int .i64 (wk : Int)]] w (RWhole w g wsE oE.ans) := by
  have HI : Hid (WholeIB w g ws.length (w.heap.size + 1) ba k wk wsE oE g ws (newB k wk) ⟨0, 0, 0, 0, false, 0⟩ m ((w.alloc (.cells #[.int .u8 k, .int .i64 (wk : Int)] 37)).alloc (.cells #[.int .u8 k, .int .i64 (wk : Int), .int .i64 0, .int .u64 0, .int .u64 0, .int .u64 0, .bool false, .int .i64 0] 41))) := Lib.hid (by
    have hb : Below w.heap.size w ((w.alloc (.cells #[.int .u8 k, .int .i64 (wk : Int)] 37)).alloc (.cells #[.int .u8 k, .int .i64 (wk : Int), .int .i64 0, .int .u64 0, .int .u64 0, .int .u64 0, .bool false, .int .i64 0] 41)) := ((Below.refl w.heap.size w).alloc (Nat.le_refl _) _).alloc (by simp) _
    exact ⟨h.below hb hg, by simp only [World.size_alloc]; omega, .inr rfl, by omega, rfl, by rw [hn]; exact OkB.new hf, AloneB.new _ _ _, hr, by rcases hf with ⟨a, _⟩ | ⟨a, _⟩ | ⟨a, _⟩ <;> simp [InvB, newB, a], hu, rfl, rfl, by omega, Row.new2 w _ _ _ rfl, by omega, hb⟩)
  have HE := Lib.hid hE
  have HL := Lib.hid hl
  have HN2 : Hid (2 ≤ ws.length) := Lib.hid (by omega)
  have H0 := Lib.hid h0
  have H1 := Lib.hid h1
  clear h hg hn hn1 hl hu h0 h1 hf hr hE
  go_enter Try.func25, Try.ntmps25
  go_wp2
  go_loopg [1] (muO ws.length (newB k wk)) (fun (mm : Nat) vv wr => ∃ g' c' ws' o u j, mm = muO ws.length o ∧ vv = .slice (some ⟨g', 0, none⟩) ws.length c' ∧ WholeIB w g ws.length (w.heap.size + 1) ba k wk wsE oE g' ws' o u j wr)
  case atStart => exact ⟨g, q, ws, newB k wk, ⟨0, 0, 0, 0, false, 0⟩, m, rfl, rfl, HI.out⟩
  case round =>
    obtain ⟨g', c', ws1, o, u, j, hm, rfl, hS⟩ := hrel
    have HM := Lib.hid hm
    have HS := Lib.hid hS
    have hrow := hS.row
    have hi := hS.inv
    clear hm hS
    obtain ⟨at_, s, hd, sm, en, an⟩ := u
    obtain ⟨u0, u1, u2, u3, u4, u5, u6, u7⟩ := hrow.eight_
    have uf := hrow.free
    have ult := hrow.lt
    clear hrow
    by_cases hp : o.ph = 9
    · rcases hi with ⟨_, he, ha⟩ | ⟨ha, _⟩
      · dsimp only at he ha
        subst he
        have hrj := HS.out.run
        rw [runB_over hp] at hrj
        obtain ⟨rfl, rfl⟩ : ws1 = wsE ∧ o = oE := ⟨congrArg Prod.fst hrj, congrArg Prod.snd hrj⟩
        have HA := Lib.hid ha
        have HLN := Lib.hid HS.out.len
        clear hp hrj ha
        go_wp2
        go_region
        all_goals
          go_wp2
          refine bodyPost_ret (v := .tuple #[.slice (some ⟨g', 0, none⟩) ws.length c', .int .i64 an]) (by simp [results, Try.results25, go_sem]) rfl ?_
          refine ⟨g', c', by rw [HA.out, HLN.out], HS.out.old, ?_, ?_, ?_⟩
          · have := HS.out.lt; simpa using this
          · repeat (first | (with_reducible exact HS.out.lies) | (with_reducible refine Lies.drew ?_))
          · repeat (first | (with_reducible exact HS.out.low) | (with_reducible refine Below.drew ?_))
      · exact absurd hp ha
    · rcases hi with ⟨ha, _⟩ | ⟨_, he, hi⟩
      · exact absurd ha hp
      dsimp only at he
      subst he
      have HP := Lib.hid hp
      have HD := Lib.hid (dstep_op (q := c') HS.out.lies HS.out.lt (by rw [HS.out.len]; exact HL.out) (by rw [HS.out.len]; exact HN2.out) HS.out.us H0.out H1.out HS.out.ok hp HS.out.inv)
      simp only [undU, undB, HS.out.hk, HS.out.hwk, HS.out.len] at HD
      clear hp hi
      go_wp2_with (go_at_call 17; refine HD.out.mono ?_; rintro e w3 ⟨⟨at', s', hd', sm', en', an'⟩, hi', g2, c2, rfl, hg2, hlt2, hL2, hb2⟩; have HI2 := Lib.hid hi'; have HG2 := Lib.hid hg2; have HLT2 := Lib.hid hlt2; have HL2 := Lib.hid hL2; have HB2 := Lib.hid hb2; have HLN : Hid ((stepBW ba ws1 o).length = ws.length) := Lib.hid ((stepBW_length _ _ _).trans HS.out.len); rw [HLN.out]; simp only [undU, undB, HS.out.hk, HS.out.hwk]; have hrow := HS.out.row.below hb2 HS.out.row.lt; obtain ⟨k0, k1, k2, k3, k4, k5, k6, k7⟩ := hrow.eight_; have kf := hrow.free; have klt := hrow.lt; clear hi' hg2 hlt2 hL2 hb2 hrow)
      obtain ⟨j', hnext, hmu⟩ := HS.out.next HE.out H0.out HP.out HI2.out HG2.out HLT2.out HL2.out HB2.out
      have HNX := Lib.hid hnext
      have HMU := Lib.hid hmu
      clear hnext hmu
      go_roundg (muO ws.length (stepB ba ws1 o))
      case measure =>
        rw [HM.out]
        exact HMU.out
      case rel =>
        exact ⟨g2, c2, _, _, ⟨at', s', hd', sm', en', an'⟩, j', rfl, rfl, HNX.out⟩
end Go.Proofs.Ytddlalljdecdoaa

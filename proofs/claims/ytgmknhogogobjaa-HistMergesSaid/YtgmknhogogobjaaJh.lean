/- THE WALKS of package hist: several histograms side by side; little. -/
import Derived.Test.YtgmknhogogobjaaJe
import Derived.Test.YtgmknhogogobjaaJg
import Derived.Test.YtgmknhogogobjaaIx
import Derived.Test.YtgmknhogogobjaaEy
import Derived.Deep.RegionLaw
import Derived.Deep.AppendLies
import Derived.Laws.MakeOwn
namespace Go.Proofs.Ytgmknhogogobjaa
open Go Go.RowKit
set_option maxRecDepth 100000
set_option maxHeartbeats 1600000
structure Blk where
  bh : Nat
  bk : Nat
  bw : Nat
/-- what Record answers; what is recorded -/
def whyR (h v n : Int) : Int := if 0 ≤ v ∧ v ≤ h ∧ n ≠ 0 then 0 else 2
def recR (l h d v n : Int) : List RecH := if 0 ≤ v ∧ v ≤ h ∧ n ≠ 0 then [⟨v, n, ixH l d v⟩] else []
/-- histograms side by side; boxes, and lists that none of them has -/
structure Lab (W : World) (l h d : Int) (m : Nat) (bs : List Blk) (rss : List (List RecH)) (rows : List (Nat × List Value)) (es : List (Option Addr × List Int)) (wr : World) : Prop where
  held : Held W l h d rows es wr
  his : ∀ (p : Nat) (b : Blk) (rs : List RecH), bs[p]? = some b → rss[p]? = some rs → ∃ ws, HistM wr b.bh b.bk b.bw l h d m ws ∧ HistR m rs ws
  ap : ∀ (p q : Nat) (b c : Blk), p ≠ q → bs[p]? = some b → bs[q]? = some c → b.bw ≠ c.bw
  lo : ∀ b ∈ bs, W.heap.size ≤ b.bw
  up : ∀ b ∈ bs, b.bw < wr.heap.size
  far : ∀ e ∈ es, ∀ a, e.1 = some a → ∀ b ∈ bs, a.block ≠ b.bw
  exl : ∀ e ∈ es, ∀ a, e.1 = some a → a.block < wr.heap.size
  apb : ∀ e ∈ es, ∀ a, e.1 = some a → ∀ r ∈ rows, a.block ≠ r.1
  rap : rows.Pairwise (fun r s => r.1 ≠ s.1)
  rlo : ∀ r ∈ rows, W.heap.size ≤ r.1
section
variable {W wr w1 : World} {l h d : Int} {m : Nat} {bs : List Blk} {rss : List (List RecH)} {rows : List (Nat × List Value)} {es : List (Option Addr × List Int)} {A : Option Addr} {f : ShotH} {p : Nat} {b : Blk} {rs : List RecH} {v n : Int}
theorem Lab.on (L : Lab W l h d m bs rss rows es wr) (hb : Below wr.heap.size wr w1) : Lab W l h d m bs rss rows es w1 :=
  ⟨L.held.on hb, fun p b rs hp hr => (L.his p b rs hp hr).imp fun _ ⟨a, c⟩ => ⟨a.on hb, c⟩, L.ap, L.lo, fun b hb' => Nat.lt_of_lt_of_le (L.up b hb') hb.size, L.far, fun e he a ha => Nat.lt_of_lt_of_le (L.exl e he a ha) hb.size, L.apb, L.rap, L.rlo⟩
theorem ext_part {xs : List Int} {bw : Nat} (hA : Ext .u64 wr A xs) (hP : Part [bw] wr w1) (hn : ∀ a, A = some a → a.block ≠ bw) : Ext .u64 w1 A xs := fun j x hx => by
  obtain ⟨b, o, e, hlt, hc⟩ := hA j x hx
  have hne := hn _ e
  exact ⟨b, o, e, Nat.lt_of_lt_of_le hlt hP.size, by unfold World.cell? at hc ⊢; rw [hP.block b hlt (by simpa using hne)]; exact hc⟩
/-- one of them is stepped on -/
theorem Lab.part {rs' : List RecH} {ws' : List Int} (L : Lab W l h d m bs rss rows es wr) (hp : bs[p]? = some b) (hr : rss[p]? = some rs) (hh : HistM w1 b.bh b.bk b.bw l h d m ws') (hR : HistR m rs' ws') (hP : Part [b.bw] wr w1) : Lab W l h d m bs (rss.set p rs') rows es w1 := by
  obtain ⟨ws, hs, _⟩ := L.his p b rs hp hr
  have hw := hs.words.row
  have hmem := List.mem_of_getElem? hp
  have ne : ∀ {b' : Nat} {t : TypeId} {lv : List Value}, Row wr b' t lv → t ≠ 109 → b' ∉ [b.bw] := fun hr ht => by simpa using hr.ne hw ht
  refine ⟨⟨L.held.sc.part hP (ne L.held.sc (by decide)), fun r hr => (L.held.rows r hr).part hP (ne (L.held.rows r hr) (by decide)), fun e he => ext_part (L.held.exts e he) hP (fun a ha => L.far e he a ha b hmem), L.held.low.trans (hP.below L.held.low.size (by simpa using L.lo b hmem))⟩, fun q c qs hq hqs => ?_, L.ap, L.lo, fun c hc => Nat.lt_of_lt_of_le (L.up c hc) hP.size, L.far, fun e he a ha => Nat.lt_of_lt_of_le (L.exl e he a ha) hP.size, L.apb, L.rap, L.rlo⟩
  by_cases e : q = p
  · subst e
    rw [List.getElem?_set_self (lt_of_get hr)] at hqs
    rw [hp] at hq
    cases hq; cases hqs
    exact ⟨ws', hh, hR⟩
  · rw [List.getElem?_set_ne (fun h => e h.symm)] at hqs
    obtain ⟨ws2, h2, h3⟩ := L.his q c qs hq hqs
    have hne := L.ap q p c b e hq hp
    exact ⟨ws2, ⟨h2.head.part hP (ne h2.head (by decide)), h2.words.part hP (ne h2.words.head (by decide)) (by simpa using hne), h2.len, h2.few⟩, h3⟩
theorem Lab.record (L : Lab W l h d m bs rss rows es wr) (hm : m = Sc.cnt l h d) (r : Sc.rightB l h d = true) (hp : bs[p]? = some b) (hr : rss[p]? = some rs) :
    Calls Try.prog 29 #[.pointer (some ⟨b.bh, 0, none⟩), .int .i64 v, .int .u64 n] wr fun e w' => e = .returned (.int .i64 (whyR h v n)) ∧ Lab W l h d m bs (rss.set p (recR l h d v n ++ rs)) rows es w' := by
  obtain ⟨ws, hs, hR⟩ := L.his p b rs hp hr
  have hs2 := (hs.alloc (.cells #[.int .u8 1, .int .i64 v, .int .u64 n] 40)).alloc (.cells #[.int .u64 0, .int .u64 0, .int .i64 0, .int .i64 0, .slice none 0 0] 44)
  have hno : ¬ (0 ≤ v ∧ v ≤ h ∧ n ≠ 0) → ∀ (e : Ending) (w' : World), (e = .returned (.int .i64 2) ∧ Below wr.heap.size wr w') → e = .returned (.int .i64 (whyR h v n)) ∧ Lab W l h d m bs (rss.set p (recR l h d v n ++ rs)) rows es w' := fun hn e w' ⟨he, hb⟩ => by
    unfold whyR recR
    rw [if_neg hn, if_neg hn]
    exact ⟨he, L.part hp hr (hs.on hb) hR (Part.of_below hb (Nat.le_refl _) _)⟩
  by_cases h0 : 0 ≤ v ∧ v ≤ h
  · by_cases hn : n = 0
    · exact (hrecord_out (hstart_rec_none hs2 r h0.1 h0.2 hn) (by decide)).mono (hno (fun a => a.2.2 hn))
    · refine (hrecord_yes hs hm r h0.1 h0.2 hn).mono fun e w' ⟨he, hh, hP⟩ => ?_
      unfold whyR recR
      rw [if_pos ⟨h0.1, h0.2, hn⟩, if_pos ⟨h0.1, h0.2, hn⟩]
      exact ⟨he, L.part hp hr hh (hist_rec hR (by rw [hm]; exact ix_lt r h0.1 h0.2) h0.1 (by have := h_le r; omega)) hP⟩
  · exact (hrecord_out (hstart_rec_out hs2 r (by omega)) (by decide)).mono (hno (fun a => h0 ⟨a.1, a.2.1⟩))
/-- a snapshot is shown: its list is new -/
theorem Lab.shown (L : Lab W l h d m bs rss rows es wr) (hm : 0 < m) (hp : bs[p]? = some b) (hr : rss[p]? = some rs) :
    Calls Try.prog 30 #[.pointer (some ⟨b.bh, 0, none⟩)] wr fun e w' => ∃ A c, e = .returned (.agg #[.int .u64 (shotR m rs).c, .int .u64 (shotR m rs).su, .int .i64 (shotR m rs).le, .int .i64 (shotR m rs).gr, .slice A (shotR m rs).bu.length c]) ∧ Lab W l h d m bs rss rows ((A, (shotR m rs).bu) :: es) w' := by
  obtain ⟨ws, hs, hR⟩ := L.his p b rs hp hr
  have hc := hshow_any hs hm
  rw [hist_shot hR] at hc
  refine hc.mono fun e w' ⟨A, c, he, ho, hh, hP⟩ => ⟨A, c, he, ?_⟩
  have L1 := L.part hp hr hh hR hP
  rw [show rss.set p rs = rss from List.ext_getElem? (fun j => by
    by_cases e : p = j
    · subst e; rw [List.getElem?_set_self (lt_of_get hr), hr]
    · rw [List.getElem?_set_ne e])] at L1
  have hfr : ∀ a, A = some a → wr.heap.size ≤ a.block := fun a ha => own_from ho a.block (by rw [ha]; rfl)
  have hfl : ∀ a, A = some a → a.block < w'.heap.size := fun a ha => own_block ho a.block (by rw [ha]; rfl)
  exact ⟨⟨L1.held.sc, L1.held.rows, fun e he => by
    rcases List.mem_cons.1 he with rfl | he
    · exact own_ext ho
    · exact L1.held.exts e he, L1.held.low⟩, L1.his, L1.ap, L1.lo, L1.up, fun e he a ha c hc => (by
    rcases List.mem_cons.1 he with rfl | he
    · have h1 := hfr a ha
      have := L.up c hc
      omega
    · exact L1.far e he a ha c hc), fun e he a ha => (by
    rcases List.mem_cons.1 he with rfl | he
    · exact hfl a ha
    · exact L1.exl e he a ha), fun e he a ha r hr => (by
    rcases List.mem_cons.1 he with rfl | he
    · have h1 := hfr a ha
      have := (L.held.rows r hr).lt
      omega
    · exact L1.apb e he a ha r hr), L1.rap, L1.rlo⟩
/-- a box for a snapshot whose list is known -/
theorem Lab.box (L : Lab W l h d m bs rss rows es wr) (lv : List Value) : Lab W l h d m bs rss ((wr.heap.size, lv) :: rows) es (wr.alloc (.cells lv.toArray 44)) := by
  have L1 := L.on ((Below.refl wr.heap.size wr).alloc (Nat.le_refl _) (.cells lv.toArray 44))
  exact ⟨⟨L1.held.sc, fun r hr => by
    rcases List.mem_cons.1 hr with rfl | hr
    · exact Row.new wr _ _
    · exact L1.held.rows r hr, L1.held.exts, L1.held.low⟩, L1.his, L1.ap, L1.lo, L1.up, L1.far, L1.exl, fun e he a ha r hr => (by
    rcases List.mem_cons.1 hr with rfl | hr
    · have := L.exl e he a ha
      dsimp only
      omega
    · exact L1.apb e he a ha r hr), List.pairwise_cons.2 ⟨fun r hr => (by have := (L.held.rows r hr).lt; dsimp only; omega), L1.rap⟩, fun r hr => (by
    rcases List.mem_cons.1 hr with rfl | hr
    · exact L.held.low.size
    · exact L1.rlo r hr)⟩
/-- a box is filled anew -/
theorem Lab.fill {bz : Nat} {z0 z1 z2 z3 z4 : Value} (x0 x1 x2 x3 x4 : Value) (L : Lab W l h d m bs rss ((bz, [z0, z1, z2, z3, z4]) :: rows) es wr) : Lab W l h d m bs rss ((bz, [x0, x1, x2, x3, x4]) :: rows) es (((((wr.setCell ⟨bz, 0, none⟩ x0).setCell ⟨bz, 1, none⟩ x1).setCell ⟨bz, 2, none⟩ x2).setCell ⟨bz, 3, none⟩ x3).setCell ⟨bz, 4, none⟩ x4) := by
  have hz : Row wr bz 44 [z0, z1, z2, z3, z4] := L.held.rows _ List.mem_cons_self
  have hP : Part [bz] wr (((((wr.setCell ⟨bz, 0, none⟩ x0).setCell ⟨bz, 1, none⟩ x1).setCell ⟨bz, 2, none⟩ x2).setCell ⟨bz, 3, none⟩ x3).setCell ⟨bz, 4, none⟩ x4) := by
    repeat (first | (with_reducible exact Part.refl _ _) | refine Part.set ?_ (by simp) _)
  have ne : ∀ {b' : Nat} {t : TypeId} {lv : List Value}, Row wr b' t lv → t ≠ 44 → b' ∉ [bz] := fun hr ht => by simpa using hr.ne hz ht
  obtain ⟨hap, hrap⟩ := List.pairwise_cons.1 L.rap
  exact ⟨⟨L.held.sc.part hP (ne L.held.sc (by decide)), fun r hr => (by
    rcases List.mem_cons.1 hr with rfl | hr
    · exact Row.of_eq (((((hz.set 0 _).set 1 _).set 2 _).set 3 _).set 4 _) rfl
    · exact (L.held.rows r (List.mem_cons_of_mem _ hr)).part hP (by have := hap r hr; simpa using fun e => this e.symm)), fun e he => ext_part (L.held.exts e he) hP (fun a ha => L.apb e he a ha _ List.mem_cons_self), L.held.low.trans (hP.below L.held.low.size (by simpa using L.rlo _ List.mem_cons_self))⟩, fun p b rs hp hr => (by
    obtain ⟨ws, h2, h3⟩ := L.his p b rs hp hr
    exact ⟨ws, ⟨h2.head.part hP (ne h2.head (by decide)), h2.words.part hP (ne h2.words.head (by decide)) (ne h2.words.row (by decide)), h2.len, h2.few⟩, h3⟩), L.ap, L.lo, fun b hb => Nat.lt_of_lt_of_le (L.up b hb) hP.size, L.far, fun e he a ha => Nat.lt_of_lt_of_le (L.exl e he a ha) hP.size, fun e he a ha r hr => (by
    rcases List.mem_cons.1 hr with rfl | hr
    · exact L.apb e he a ha (bz, [z0, z1, z2, z3, z4]) List.mem_cons_self
    · exact L.apb e he a ha r (List.mem_cons_of_mem _ hr)), List.pairwise_cons.2 ⟨hap, hrap⟩, fun r hr => (by
    rcases List.mem_cons.1 hr with rfl | hr
    · exact L.rlo (bz, [z0, z1, z2, z3, z4]) List.mem_cons_self
    · exact L.rlo r (List.mem_cons_of_mem _ hr))⟩
theorem Lab.lim3 (L : Lab W l h d m bs rss rows es wr) : wr.cell? ⟨W.heap.size, 0, none⟩ = some (.int .i64 l) ∧ wr.cell? ⟨W.heap.size, 1, none⟩ = some (.int .i64 h) ∧ wr.cell? ⟨W.heap.size, 2, none⟩ = some (.int .i64 d) := ⟨L.held.sc.cell 0, L.held.sc.cell 1, L.held.sc.cell 2⟩
theorem Lab.limM {bz n1 : Nat} (L : Lab W l h d m bs rss rows es wr) (hm : (bz, [.int .u64 f.c, .int .u64 f.su, .int .i64 f.le, .int .i64 f.gr, .slice A f.bu.length n1]) ∈ rows) : wr.cell? ⟨bz, 0, none⟩ = some (.int .u64 f.c) ∧ wr.cell? ⟨bz, 1, none⟩ = some (.int .u64 f.su) ∧ wr.cell? ⟨bz, 2, none⟩ = some (.int .i64 f.le) ∧ wr.cell? ⟨bz, 3, none⟩ = some (.int .i64 f.gr) ∧ wr.cell? ⟨bz, 4, none⟩ = some (.slice A f.bu.length n1) := by
  obtain ⟨y0, y1, y2, y3, y4⟩ := (L.held.rows _ hm).five
  exact ⟨y0, y1, y2, y3, y4⟩
theorem Lab.lim8 {bz n1 : Nat} (L : Lab W l h d m bs rss rows es wr) (hm : (bz, [.int .u64 f.c, .int .u64 f.su, .int .i64 f.le, .int .i64 f.gr, .slice A f.bu.length n1]) ∈ rows) : wr.cell? ⟨W.heap.size, 0, none⟩ = some (.int .i64 l) ∧ wr.cell? ⟨W.heap.size, 1, none⟩ = some (.int .i64 h) ∧ wr.cell? ⟨W.heap.size, 2, none⟩ = some (.int .i64 d) ∧ wr.cell? ⟨bz, 0, none⟩ = some (.int .u64 f.c) ∧ wr.cell? ⟨bz, 1, none⟩ = some (.int .u64 f.su) ∧ wr.cell? ⟨bz, 2, none⟩ = some (.int .i64 f.le) ∧ wr.cell? ⟨bz, 3, none⟩ = some (.int .i64 f.gr) ∧ wr.cell? ⟨bz, 4, none⟩ = some (.slice A f.bu.length n1) :=
  ⟨L.lim3.1, L.lim3.2.1, L.lim3.2.2, L.limM hm⟩
theorem Lab.lim15 {b1 b2 b3 n1 n2 n3 : Nat} {A1 A2 A3 : Option Addr} (L : Lab W l h d m bs rss [(b3, [.int .u64 f.c, .int .u64 f.su, .int .i64 f.le, .int .i64 f.gr, .slice A3 f.bu.length n3]), (b2, [.int .u64 f.c, .int .u64 f.su, .int .i64 f.le, .int .i64 f.gr, .slice A2 f.bu.length n2]), (b1, [.int .u64 f.c, .int .u64 f.su, .int .i64 f.le, .int .i64 f.gr, .slice A1 f.bu.length n1])] es wr) : wr.cell? ⟨b1, 0, none⟩ = some (.int .u64 f.c) ∧ wr.cell? ⟨b1, 1, none⟩ = some (.int .u64 f.su) ∧ wr.cell? ⟨b1, 2, none⟩ = some (.int .i64 f.le) ∧ wr.cell? ⟨b1, 3, none⟩ = some (.int .i64 f.gr) ∧ wr.cell? ⟨b1, 4, none⟩ = some (.slice A1 f.bu.length n1) ∧ wr.cell? ⟨b2, 0, none⟩ = some (.int .u64 f.c) ∧ wr.cell? ⟨b2, 1, none⟩ = some (.int .u64 f.su) ∧ wr.cell? ⟨b2, 2, none⟩ = some (.int .i64 f.le) ∧ wr.cell? ⟨b2, 3, none⟩ = some (.int .i64 f.gr) ∧ wr.cell? ⟨b2, 4, none⟩ = some (.slice A2 f.bu.length n2) ∧ wr.cell? ⟨b3, 0, none⟩ = some (.int .u64 f.c) ∧ wr.cell? ⟨b3, 1, none⟩ = some (.int .u64 f.su) ∧ wr.cell? ⟨b3, 2, none⟩ = some (.int .i64 f.le) ∧ wr.cell? ⟨b3, 3, none⟩ = some (.int .i64 f.gr) ∧ wr.cell? ⟨b3, 4, none⟩ = some (.slice A3 f.bu.length n3) := by
  have h1 := L.limM (List.mem_cons_of_mem _ (List.mem_cons_of_mem _ List.mem_cons_self))
  have h2 := L.limM (List.mem_cons_of_mem _ List.mem_cons_self)
  have h3 := L.limM List.mem_cons_self
  exact ⟨h1.1, h1.2.1, h1.2.2.1, h1.2.2.2.1, h1.2.2.2.2, h2.1, h2.2.1, h2.2.2.1, h2.2.2.2.1, h2.2.2.2.2, h3⟩
/-- a list that was made now -/
theorem Lab.made (L : Lab W l h d m bs rss rows es wr) (hb : Below wr.heap.size wr w1) (hA : Ext .u64 w1 A f.bu) (hn : ∀ a, A = some a → wr.heap.size ≤ a.block ∧ a.block < w1.heap.size) : Lab W l h d m bs rss rows ((A, f.bu) :: es) w1 := by
  have L1 := L.on hb
  exact ⟨⟨L1.held.sc, L1.held.rows, fun e he => (by
    rcases List.mem_cons.1 he with rfl | he
    · exact hA
    · exact L1.held.exts e he), L1.held.low⟩, L1.his, L1.ap, L1.lo, L1.up, fun e he a ha c hc => (by
    rcases List.mem_cons.1 he with rfl | he
    · have h1 := (hn a ha).1
      have := L.up c hc
      omega
    · exact L1.far e he a ha c hc), fun e he a ha => (by
    rcases List.mem_cons.1 he with rfl | he
    · exact (hn a ha).2
    · exact L1.exl e he a ha), fun e he a ha r hr => (by
    rcases List.mem_cons.1 he with rfl | he
    · have h1 := (hn a ha).1
      have := (L.held.rows r hr).lt
      omega
    · exact L1.apb e he a ha r hr), L1.rap, L1.rlo⟩
end
section
variable {W wr w1 : World} {l h d : Int} {m : Nat} {bs : List Blk} {rss : List (List RecH)} {rows : List (Nat × List Value)} {es : List (Option Addr × List Int)} {A : Option Addr} {f : ShotH} {p : Nat} {b : Blk} {rs : List RecH} {v n : Int}
/-- Merge makes a new list -/
theorem merge_new {f1 f2 : ShotH} {A B : Option Addr} {c c' : Nat} {w : World} (hA : Ext .u64 w A f1.bu) (hB : Ext .u64 w B f2.bu) (hl1 : f1.bu.length ≤ 17592186044416) (hl2 : f2.bu.length ≤ 17592186044416) (hw1 : checkS l h d f1 = 0) (hw2 : checkS l h d f2 = 0) :
    Calls Try.prog 25 #[.agg #[.int .i64 l, .int .i64 h, .int .i64 d], .agg #[.int .u64 f1.c, .int .u64 f1.su, .int .i64 f1.le, .int .i64 f1.gr, .slice A f1.bu.length c], .agg #[.int .u64 f2.c, .int .u64 f2.su, .int .i64 f2.le, .int .i64 f2.gr, .slice B f2.bu.length c']] w fun e w' => ∃ A' n', e = .returned (.tuple #[.agg #[.int .u64 (gS f1 f2).c, .int .u64 (gS f1 f2).su, .int .i64 (gS f1 f2).le, .int .i64 (gS f1 f2).gr, .slice A' (gS f1 f2).bu.length n'], .int .i64 0]) ∧ Ext .u64 w' A' (gS f1 f2).bu ∧ (∀ a, A' = some a → w.heap.size ≤ a.block ∧ a.block < w'.heap.size) ∧ Below w.heap.size w w' := by
  refine (merge_any hA hB hl1 hl2).mono fun e w' hM => ?_
  obtain ⟨hb, ⟨_, _, b', n', rfl, hlo, ho⟩ | ⟨why, hn, hy, _⟩⟩ := hM
  · rw [min_lem (check_le hw1) (check_le hw2), ← add_len hw1 hw2]
    rw [← add_len hw1 hw2] at ho
    exact ⟨_, n', rfl, own_ext ho, fun a ha => by cases ha; exact ⟨hlo, own_block ho b' rfl⟩, hb⟩
  · rcases hy with hy | ⟨_, hy⟩
    · exact absurd (hy.trans hw1) hn
    · exact absurd (hy.trans hw2) hn
/-- what such a Merge leaves -/
def MadeG (w : World) (g : ShotH) (e : Ending) (w' : World) : Prop := ∃ A' n', e = .returned (.tuple #[.agg #[.int .u64 g.c, .int .u64 g.su, .int .i64 g.le, .int .i64 g.gr, .slice A' g.bu.length n'], .int .i64 0]) ∧ Ext .u64 w' A' g.bu ∧ (∀ a, A' = some a → w.heap.size ≤ a.block ∧ a.block < w'.heap.size) ∧ Below w.heap.size w w'
def MergesNew (l h d : Int) (f1 f2 g : ShotH) : Prop := ∀ (w : World) (A B : Option Addr) (c c' : Nat), Ext .u64 w A f1.bu → Ext .u64 w B f2.bu → Calls Try.prog 25 #[.agg #[.int .i64 l, .int .i64 h, .int .i64 d], .agg #[.int .u64 f1.c, .int .u64 f1.su, .int .i64 f1.le, .int .i64 f1.gr, .slice A f1.bu.length c], .agg #[.int .u64 f2.c, .int .u64 f2.su, .int .i64 f2.le, .int .i64 f2.gr, .slice B f2.bu.length c']] w (MadeG w g)
theorem merges_new {f1 f2 g : ShotH} (hl1 : f1.bu.length ≤ 17592186044416) (hl2 : f2.bu.length ≤ 17592186044416) (hw1 : checkS l h d f1 = 0) (hw2 : checkS l h d f2 = 0) (hg : gS f1 f2 = g) : MergesNew l h d f1 f2 g := fun w A B c c' hA hB => by
  subst hg
  exact merge_new hA hB hl1 hl2 hw1 hw2
/-- what all operations of a list ask together -/
def allN (ops : List (Int × Int × Int)) : Int := (ops.map (fun op => op.2.2)).sum
theorem allN_snoc (ops : List (Int × Int × Int)) (op : Int × Int × Int) : allN (ops ++ [op]) = allN ops + op.2.2 := by simp [allN]
theorem allN_take {ops : List (Int × Int × Int)} {k : Nat} {op : Int × Int × Int} (hx : ops[k]? = some op) : allN (ops.take (k + 1)) = allN (ops.take k) + op.2.2 := by
  rw [List.take_add_one, hx]; exact allN_snoc _ _
def littleF (ops : List (Int × Int × Int)) : Bool := ops.all (fun op => decide (op.2.2 ≤ 1099511627776)) && (ops.isEmpty || decide (ops.length ≤ 1048576))
theorem little_sum {ops : List (Int × Int × Int)} (hl : littleF ops = true) : allN ops < 4611686018427387904 := by
  simp only [littleF, Bool.and_eq_true, List.all_eq_true, decide_eq_true_eq, Bool.or_eq_true, List.isEmpty_iff] at hl
  obtain ⟨h1, h2⟩ := hl
  have key : ∀ (l : List (Int × Int × Int)), (∀ x ∈ l, x.2.2 ≤ 1099511627776) → allN l ≤ (l.length : Int) * 1099511627776 := fun l hl => by
    induction l with
    | nil => simp [allN]
    | cons x t ih =>
      have a := ih (fun y hy => hl y (List.mem_cons_of_mem _ hy))
      have b := hl x (by simp)
      simp only [allN, List.map_cons, List.sum_cons, List.length_cons] at a ⊢
      omega
  have := key ops h1
  rcases h2 with rfl | h2
  · simp [allN]
  · omega
theorem little_big {ops : List (Int × Int × Int)} {k : Nat} {op : Int × Int × Int} (hx : ops[k]? = some op) (hn : 1099511627776 < op.2.2) : littleF ops = false := by
  have : ops.all (fun op => decide (op.2.2 ≤ 1099511627776)) = false := by
    rw [List.all_eq_false]
    exact ⟨op, List.mem_of_getElem? hx, by simp; omega⟩
  unfold littleF
  rw [this]
  rfl
theorem little_many {ops : List (Int × Int × Int)} (h1 : 1048576 < ops.length) : littleF ops = false := by
  unfold littleF
  rw [decide_eq_false (by omega : ¬ ops.length ≤ 1048576)]
  cases ops with
  | nil => simp at h1
  | cons x t => simp
theorem little_yes {ops : List (Int × Int × Int)} (h1 : ∀ (j : Nat) (op : Int × Int × Int), j < ops.length → ops[j]? = some op → op.2.2 ≤ 1099511627776) (h2 : ops.length = 0 ∨ ops.length ≤ 1048576) : littleF ops = true := by
  simp only [littleF, Bool.and_eq_true, List.all_eq_true, decide_eq_true_eq, Bool.or_eq_true, List.isEmpty_iff]
  refine ⟨fun x hx => ?_, ?_⟩
  · obtain ⟨j, hj⟩ := List.getElem?_of_mem hx
    exact h1 j x (lt_of_get hj) hj
  · rcases h2 with h2 | h2
    · exact .inl (List.length_eq_zero_iff.1 h2)
    · exact .inr h2
theorem little_any {cap : Nat} {ops : List (Int × Int × Int)} {w : World} (hE : Ext3 .u8 .i64 .u64 w A ops) (hr : ops.length * 24 ≤ 140737488355328) (h0 : ∀ (j : Nat) (op : Int × Int × Int), ops[j]? = some op → 0 ≤ op.2.2) :
    Calls Try.prog 34 #[.slice A ops.length cap] w fun e w' => e = .returned (.bool (littleF ops)) ∧ w = w' := by
  have HE := Lib.hid hE
  have H0 := Lib.hid h0
  clear hE h0
  go_enter Try.func34, Try.ntmps34
  go_wp2
  go_loopw [3, 4] (fun s i wr => ∃ k : Nat, k ≤ ops.length ∧ i = .int .i64 k ∧ s = .int .u64 (allN (ops.take k)) ∧ 0 ≤ allN (ops.take k) ∧ allN (ops.take k) ≤ (k : Int) * 1099511627776 ∧ (k = 0 ∨ ops.length ≤ 1048576) ∧ (∀ (j : Nat) (op : Int × Int × Int), j < k → ops[j]? = some op → op.2.2 ≤ 1099511627776) ∧ w = wr) (fun _ i _ => ops.length - (intOf i).toNat)
  case atStart => exact ⟨0, Nat.zero_le _, rfl, rfl, by simp [allN], by simp [allN], .inl rfl, fun j op hj => by omega, rfl⟩
  case round =>
    obtain ⟨k, hk, rfl, rfl, hlo, hup, hfew, hsm, rfl⟩ := hrel
    have HSM := Lib.hid hsm
    have HLO := Lib.hid hlo
    have HUP := Lib.hid hup
    have HF := Lib.hid hfew
    clear hlo hup hfew hsm
    by_cases hlt : k < ops.length
    · obtain ⟨⟨kd, v, n⟩, hop⟩ : ∃ op, ops[k]? = some op := ⟨ops[k], List.getElem?_eq_getElem hlt⟩
      obtain ⟨b', o', rfl, hbl, e0, e1, e2⟩ := HE.out k _ hop
      have hn0 := H0.out k _ hop
      have HT := Lib.hid (allN_take hop)
      have HOP := Lib.hid hop
      have hlt2 : (k : Int) < (ops.length : Int) := by omega
      have hk3 : k * 3 ≤ 17592186044416 := by omega
      clear hop hbl
      dsimp only at e0 e1 e2 hn0
      obtain ⟨s0, hs0⟩ : ∃ s0, allN (ops.take k) = s0 := ⟨_, rfl⟩
      rw [hs0]
      by_cases c1 : 1099511627776 < n
      · have HL := Lib.hid (little_big HOP.out c1)
        go_wp2
        go_ret
        exact ⟨by rw [HL.out]; rfl, rfl⟩
      · by_cases c2 : 1048576 < ops.length
        · have c2i : (1048576 : Int) < (ops.length : Int) := by omega
          have c1i : n ≤ 1099511627776 := by omega
          clear c1
          have HL := Lib.hid (little_many c2)
          go_wp2
          go_ret
          exact ⟨by rw [HL.out]; rfl, rfl⟩
        · have c2i : (ops.length : Int) ≤ 1048576 := by omega
          have c1i : n ≤ 1099511627776 := by omega
          have HW : Hid (IntKind.u64.wrap (s0 + n) = allN (ops.take (k + 1))) := Lib.hid (by
            have h1 := HLO.out
            have h2 := HUP.out
            rw [HT.out]
            rw [hs0] at h1 h2 ⊢
            dsimp only
            exact wrap_in (by omega) (by omega))
          have HR : Hid (0 ≤ allN (ops.take (k + 1)) ∧ allN (ops.take (k + 1)) ≤ ((k + 1 : Nat) : Int) * 1099511627776) := Lib.hid (by
            have h1 := HLO.out
            have h2 := HUP.out
            rw [HT.out]
            dsimp only
            omega)
          have HC2 := Lib.hid c2
          have HC1 := Lib.hid c1i
          clear c1 c2 hs0 hn0
          go_wp2
          go_roundw
          case rel => exact ⟨k + 1, by omega, by go_num, by rw [HW.out], HR.out.1, HR.out.2, .inr (by have := HC2.out; omega), fun j op hj ho => (by
            by_cases e : j = k
            · subst e; rw [HOP.out] at ho; cases ho; exact HC1.out
            · exact HSM.out j op (by omega) ho), by trivial⟩
          case measure => simp [intOf]; omega
    · obtain rfl : k = ops.length := by omega
      have hall : allN (ops.take ops.length) = allN ops := by rw [List.take_length]
      have h1 := HLO.out
      have h2 : allN ops < 4611686018427387904 := by
        have h3 := HUP.out
        have h4 := HF.out
        rw [hall] at h3
        rcases h4 with h4 | h4 <;> omega
      rw [hall] at h1 ⊢
      have H2 := Lib.hid (little_yes HSM.out HF.out)
      obtain ⟨s0, hs0⟩ : ∃ s0, allN ops = s0 := ⟨_, rfl⟩
      rw [hs0] at h1 ⊢
      have hd : decide (s0 < 4611686018427387904) = true := decide_eq_true (by rw [← hs0]; exact h2)
      clear h2 h1 hall hs0
      go_wp2
      go_ret
      exact ⟨by rw [H2.out]; rfl, rfl⟩
theorem Lab.rec0 {b0 b1 b2 b3 : Blk} {r0 r1 r2 r3 : List RecH} (L : Lab W l h d m [b0, b1, b2, b3] [r0, r1, r2, r3] rows es wr) (hm : m = Sc.cnt l h d) (r : Sc.rightB l h d = true) :
    Calls Try.prog 29 #[.pointer (some ⟨b0.bh, 0, none⟩), .int .i64 v, .int .u64 n] wr fun e w' => e = .returned (.int .i64 (whyR h v n)) ∧ Lab W l h d m [b0, b1, b2, b3] [recR l h d v n ++ r0, r1, r2, r3] rows es w' := L.record (p := 0) hm r rfl rfl
theorem Lab.rec1 {b0 b1 b2 b3 : Blk} {r0 r1 r2 r3 : List RecH} (L : Lab W l h d m [b0, b1, b2, b3] [r0, r1, r2, r3] rows es wr) (hm : m = Sc.cnt l h d) (r : Sc.rightB l h d = true) :
    Calls Try.prog 29 #[.pointer (some ⟨b1.bh, 0, none⟩), .int .i64 v, .int .u64 n] wr fun e w' => e = .returned (.int .i64 (whyR h v n)) ∧ Lab W l h d m [b0, b1, b2, b3] [r0, recR l h d v n ++ r1, r2, r3] rows es w' := L.record (p := 1) hm r rfl rfl
theorem Lab.rec2 {b0 b1 b2 b3 : Blk} {r0 r1 r2 r3 : List RecH} (L : Lab W l h d m [b0, b1, b2, b3] [r0, r1, r2, r3] rows es wr) (hm : m = Sc.cnt l h d) (r : Sc.rightB l h d = true) :
    Calls Try.prog 29 #[.pointer (some ⟨b2.bh, 0, none⟩), .int .i64 v, .int .u64 n] wr fun e w' => e = .returned (.int .i64 (whyR h v n)) ∧ Lab W l h d m [b0, b1, b2, b3] [r0, r1, recR l h d v n ++ r2, r3] rows es w' := L.record (p := 2) hm r rfl rfl
theorem Lab.show0 {b0 b1 b2 b3 : Blk} {r0 r1 r2 r3 : List RecH} (hf : shotR m r0 = f) (L : Lab W l h d m [b0, b1, b2, b3] [r0, r1, r2, r3] rows es wr) (hm : 0 < m) :
    Calls Try.prog 30 #[.pointer (some ⟨b0.bh, 0, none⟩)] wr fun e w' => ∃ A c, e = .returned (.agg #[.int .u64 f.c, .int .u64 f.su, .int .i64 f.le, .int .i64 f.gr, .slice A f.bu.length c]) ∧ Lab W l h d m [b0, b1, b2, b3] [r0, r1, r2, r3] rows ((A, f.bu) :: es) w' := by
  rw [← hf]
  exact L.shown (p := 0) hm rfl rfl
theorem Lab.show1 {b0 b1 b2 b3 : Blk} {r0 r1 r2 r3 : List RecH} (hf : shotR m r1 = f) (L : Lab W l h d m [b0, b1, b2, b3] [r0, r1, r2, r3] rows es wr) (hm : 0 < m) :
    Calls Try.prog 30 #[.pointer (some ⟨b1.bh, 0, none⟩)] wr fun e w' => ∃ A c, e = .returned (.agg #[.int .u64 f.c, .int .u64 f.su, .int .i64 f.le, .int .i64 f.gr, .slice A f.bu.length c]) ∧ Lab W l h d m [b0, b1, b2, b3] [r0, r1, r2, r3] rows ((A, f.bu) :: es) w' := by
  rw [← hf]
  exact L.shown (p := 1) hm rfl rfl
theorem Lab.show2 {b0 b1 b2 b3 : Blk} {r0 r1 r2 r3 : List RecH} (hf : shotR m r2 = f) (L : Lab W l h d m [b0, b1, b2, b3] [r0, r1, r2, r3] rows es wr) (hm : 0 < m) :
    Calls Try.prog 30 #[.pointer (some ⟨b2.bh, 0, none⟩)] wr fun e w' => ∃ A c, e = .returned (.agg #[.int .u64 f.c, .int .u64 f.su, .int .i64 f.le, .int .i64 f.gr, .slice A f.bu.length c]) ∧ Lab W l h d m [b0, b1, b2, b3] [r0, r1, r2, r3] rows ((A, f.bu) :: es) w' := by
  rw [← hf]
  exact L.shown (p := 2) hm rfl rfl
theorem Lab.show3 {b0 b1 b2 b3 : Blk} {r0 r1 r2 r3 : List RecH} (hf : shotR m r3 = f) (L : Lab W l h d m [b0, b1, b2, b3] [r0, r1, r2, r3] rows es wr) (hm : 0 < m) :
    Calls Try.prog 30 #[.pointer (some ⟨b3.bh, 0, none⟩)] wr fun e w' => ∃ A c, e = .returned (.agg #[.int .u64 f.c, .int .u64 f.su, .int .i64 f.le, .int .i64 f.gr, .slice A f.bu.length c]) ∧ Lab W l h d m [b0, b1, b2, b3] [r0, r1, r2, r3] rows ((A, f.bu) :: es) w' := by
  rw [← hf]
  exact L.shown (p := 3) hm rfl rfl
theorem Lab.new {bh bk bw : Nat} (L : Lab W l h d m bs rss rows [] wr) (hlen : bs.length = rss.length) (hn : wr.heap.size ≤ bw) (hh : HistM w1 bh bk bw l h d m (startH m)) (hb : Below wr.heap.size wr w1) : Lab W l h d m (bs ++ [⟨bh, bk, bw⟩]) (rss ++ [[]]) rows [] w1 := by
  have L1 := L.on hb
  have hlt := hh.words.row.lt
  have old : ∀ (p : Nat) (b : Blk), (bs ++ [⟨bh, bk, bw⟩])[p]? = some b → (p < bs.length ∧ bs[p]? = some b) ∨ (p = bs.length ∧ b = ⟨bh, bk, bw⟩) := fun p b hp => by
    by_cases a : p < bs.length
    · rw [List.getElem?_append_left a] at hp; exact .inl ⟨a, hp⟩
    · rw [List.getElem?_append_right (by omega)] at hp
      have h1 := lt_of_get hp
      simp at h1
      have h2 : p = bs.length := by omega
      subst h2
      simp at hp
      exact .inr ⟨rfl, hp.symm⟩
  have mem : ∀ b ∈ bs ++ [⟨bh, bk, bw⟩], b ∈ bs ∨ b = ⟨bh, bk, bw⟩ := fun b hb => by simpa using hb
  refine ⟨L1.held, fun p b rs hp hr => ?_, fun p q b c hpq hp hq => ?_, fun b hb => ?_, fun b hb => ?_, fun e he => (by cases he), fun e he => (by cases he), fun e he => (by cases he), L1.rap, L1.rlo⟩
  · rcases old p b hp with ⟨a, hp⟩ | ⟨rfl, rfl⟩
    · rw [List.getElem?_append_left (by omega)] at hr
      exact L1.his p b rs hp hr
    · rw [hlen, List.getElem?_append_right (Nat.le_refl _)] at hr
      simp at hr
      subst hr
      exact ⟨startH m, hh, hist_start m⟩
  · rcases old p b hp with ⟨a, hp⟩ | ⟨e1, rfl⟩ <;> rcases old q c hq with ⟨a', hq⟩ | ⟨e2, rfl⟩
    · exact L.ap p q b c hpq hp hq
    · have := L.up b (List.mem_of_getElem? hp); dsimp only; omega
    · have := L.up c (List.mem_of_getElem? hq); dsimp only; omega
    · omega
  · rcases mem b hb with hb | rfl
    · exact L.lo b hb
    · have := L.held.low.size; dsimp only; omega
  · rcases mem b hb with hb | rfl
    · exact L1.up b hb
    · exact hlt
/-- the records of operations, the last one first -/
def recsO (l h d : Int) (ops : List (Int × Int × Int)) : List RecH := ops.foldl (fun acc op => recR l h d op.2.1 op.2.2 ++ acc) []
theorem recs_take {ops : List (Int × Int × Int)} {k : Nat} {op : Int × Int × Int} (hx : ops[k]? = some op) : recsO l h d (ops.take (k + 1)) = recR l h d op.2.1 op.2.2 ++ recsO l h d (ops.take k) := by
  unfold recsO
  rw [List.take_add_one, hx, List.foldl_append]
  rfl
theorem recs_ok {ops : List (Int × Int × Int)} (h0 : ∀ (j : Nat) (op : Int × Int × Int), ops[j]? = some op → 0 ≤ op.2.2) : ∀ k, k ≤ ops.length → (∀ q ∈ recsO l h d (ops.take k), OkR l h d q) ∧ tN (recsO l h d (ops.take k)) ≤ allN (ops.take k)
  | 0, _ => ⟨fun q hq => by simp [recsO] at hq, by simp [recsO, tN, allN]⟩
  | k + 1, hk => by
    obtain ⟨i1, i2⟩ := recs_ok h0 k (by omega)
    obtain ⟨op, hop⟩ : ∃ op, ops[k]? = some op := ⟨ops[k], List.getElem?_eq_getElem (by omega)⟩
    have hn := h0 k op hop
    rw [recs_take hop, allN_take hop]
    unfold recR
    split
    · rename_i a
      refine ⟨fun q hq => ?_, ?_⟩
      · rcases List.mem_append.1 hq with hq | hq
        · obtain rfl : q = _ := by simpa using hq
          exact ⟨a.1, a.2.1, by have := a.2.2; dsimp only; omega, rfl⟩
        · exact i1 q hq
      · simp only [List.singleton_append, tN]; omega
    · exact ⟨i1, by simp only [List.nil_append]; omega⟩
end
end Go.Proofs.Ytgmknhogogobjaa

/- 'alive': a store that is fenced, and one that is lost. -/
import Derived.Test.YtghppmgieljgiaaDoes
namespace Go.Proofs.Ytghppmgieljgiaa
open Go.RowKit
/-- A device of the call's own: nothing that was there has turned. -/
structure Mine (w0 w : World) (g : Nat) (F : Nat → Prop) (K S : List Nat) (L : List Pn) : Prop where
  dev : Dev w g F K S L
  lo : ∀ i, F i → w0.heap.size ≤ i
  below : Below w0.heap.size w0 w
section
variable {w0 w w' : World} {g : Nat} {F : Nat → Prop} {K S K' S' : List Nat} {L L' : List Pn}
theorem Mine.turn (h : Mine w0 w g F K S L) (t : Turn w g F K' S' L' w') : ∃ F', Mine w0 w' g F' K' S' L' := by
  obtain ⟨F', h1, h2, h3⟩ := t
  have hz := h.below.size
  refine ⟨F', h1, fun i hi => ?_, h.below.trans (h2.below hz h.lo)⟩
  rcases h3 i hi with h4 | h4
  · exact h.lo i h4
  · omega
theorem Mine.pass (h : Mine w0 w g F K S L) (hb : Below w.heap.size w w') : Mine w0 w' g F K S L := ⟨h.dev.below hb, h.lo, h.below.trans (hb.mono h.below.size)⟩
theorem Mine.of_new {e : Ending} (h : NewDev w K e w') : ∃ g F, e = .returned (.tuple #[.pointer (some ⟨g, 0, none⟩), .int .i64 0]) ∧ Mine w w' g F K K [] := by
  obtain ⟨g, he, hd, hb⟩ := h
  exact ⟨g, _, he, hd, fun i hi => hi.1, hb⟩
theorem Mine.load (h : Mine w0 w g F K S L) (a : Nat) (ha : a < K.length) (hs : S.length = K.length) (hm : K.length ≤ 9223372036854775807) :
    Calls Try.prog 22 #[.pointer (some ⟨g, 0, none⟩), .int .i64 (a : Nat)] w fun e w' => e = .returned (.tuple #[.int .u64 ((S.getD a 0 : Nat) : Int), .int .i64 0]) ∧ w = w' := by
  obtain ⟨gk, ck, gs, cs, A, cp, hd, _⟩ := h.dev
  exact load_in hd a ha hs hm
theorem Mine.lines (h : Mine w0 w g F K S L) (n : Nat) (hn : K.length = 8 * n) (hm : n ≤ 4096) :
    Calls Try.prog 12 #[.pointer (some ⟨g, 0, none⟩)] w fun e w' => e = .returned (.int .i64 (n : Nat)) ∧ w = w' := by
  obtain ⟨gk, ck, gs, cs, A, cp, hd, _⟩ := h.dev
  exact lines_calls hd n hn hm
end
set_option maxRecDepth 100000 in
theorem alive_calls (w : World) : Calls Try.prog 9 #[] w fun e w' => e = .returned (.bool true) ∧ Below w.heap.size w w' := by
  go_enter Try.func9, Try.ntmps9
  go_wp2_with (fail)
  refine (new_calls w 1 (by decide) (by decide)).mono ?_
  intro e w1 h
  obtain ⟨g, F1, rfl, m1⟩ := Mine.of_new h
  clear h
  go_wp2_with (fail)
  refine (store_in m1.dev 3 5 (by decide) rfl (by decide) (by decide)).mono ?_
  rintro e w2 ⟨rfl, t⟩
  obtain ⟨F2, m2⟩ := m1.turn t
  clear t
  go_wp2_with (fail)
  refine (flush_in m2.dev 0 1 rfl (by decide) (by decide) (by decide) (by decide)).mono ?_
  rintro e w3 ⟨rfl, t⟩
  obtain ⟨F3, m3⟩ := m2.turn t
  clear t
  go_wp2_with (fail)
  refine (store_in m3.dev 3 6 (by decide) rfl (by decide) (by decide)).mono ?_
  rintro e w4 ⟨rfl, t⟩
  obtain ⟨F4, m4⟩ := m3.turn t
  clear t
  go_wp2_with (fail)
  refine (fence_calls m4.dev (by decide) (by decide) (by decide)).mono ?_
  rintro e w5 ⟨rfl, t⟩
  obtain ⟨F5, m5⟩ := m4.turn t
  clear t
  have m5' : Mine w w5 g F5 [0, 0, 0, 5, 0, 0, 0, 0] [0, 0, 0, 6, 0, 0, 0, 0] [⟨3, 6, false⟩] := m5
  clear m5
  go_wp2_with (fail)
  refine (pending_calls m5'.dev (by decide)).mono ?_
  rintro e w6 ⟨A6, c6, rfl, o6, b6, l6⟩
  have m6 := m5'.pass b6
  go_wp2_with (fail)
  refine (m6.load 3 (by decide) rfl (by decide)).mono ?_
  rintro e w' ⟨rfl, rfl⟩
  go_wp2_with (fail)
  refine (crash_calls m6.dev (by decide) (by decide) (by decide) rfl none [] 0 (Cel.nil _ _) (by decide) (fun ad e => by cases e)).mono ?_
  rintro e w7 ⟨rfl, t⟩
  have o7 : OwnR w7 61 3 A6 1 c6 (pv [⟨3, 6, false⟩]) := by
    obtain ⟨F', _, ho, _⟩ := t
    refine o6.keep fun ad e => ho.block ad.block (o6.lt ad e) fun hf => ?_
    have q1 := l6 ad e
    have q2 := m5'.dev.lt _ hf
    omega
  obtain ⟨F7, m7⟩ := m6.turn t
  clear t o6
  have m7' : Mine w w7 g F7 [0, 0, 0, 5, 0, 0, 0, 0] [0, 0, 0, 5, 0, 0, 0, 0] [] := m7
  clear m7
  obtain ⟨gp, rfl, x0, x1, x2⟩ := own_at (k := 0) o7 (by decide)
  have y0 : w7.cell? ⟨gp, 0, none⟩ = some (.int .i64 3) := x0
  have y1 : w7.cell? ⟨gp, 1, none⟩ = some (.int .u64 6) := x1
  have y2 : w7.cell? ⟨gp, 2, none⟩ = some (.bool false) := x2
  clear x0 x1 x2
  go_wp2_with (fail)
  refine (m7'.load 3 (by decide) rfl (by decide)).mono ?_
  rintro e w' ⟨rfl, rfl⟩
  go_wp2_with (fail)
  refine (m7'.lines 1 rfl (by decide)).mono ?_
  rintro e w' ⟨rfl, rfl⟩
  go_wp2_with (fail)
  go_ret
  exact ⟨rfl, m7'.below⟩
end Go.Proofs.Ytghppmgieljgiaa

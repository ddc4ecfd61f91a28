/- Fence and Crash. -/
import Derived.Test.YtghppmgieljgiaaSettle
import Derived.Laws.CopyOwn
import Derived.StillTailTactics
namespace Go.Proofs.Ytghppmgieljgiaa
open Go.RowKit
/-- What an operation on a device leaves: footprint F' in place of F. -/
def Turn (w : World) (g : Nat) (F : Nat → Prop) (K S : List Nat) (L : List Pn) (w' : World) : Prop :=
  ∃ F', Dev w' g F' K S L ∧ Only F w w' ∧ ∀ i, F' i → F i ∨ w.heap.size ≤ i
theorem Turn.mk {w w' : World} {g gk ck gs cs cp : Nat} {A : Option Addr} {F F' : Nat → Prop} {K S : List Nat} {L : List Pn} (h : DevC w' g gk ck gs cs A cp K S L) (ho : Only F w w') (fg : F' g) (fk : F' gk) (fs : F' gs) (fp : ∀ ad, A = some ad → F' ad.block)
    (hF : ∀ i, F' i → (F i ∨ w.heap.size ≤ i) ∧ i < w'.heap.size) : Turn w g F K S L w' :=
  ⟨F', ⟨gk, ck, gs, cs, A, cp, h, fg, fk, fs, fp, fun i hi => (hF i hi).2⟩, ho, fun i hi => (hF i hi).1⟩
theorem fence_nil (w : World) : Calls Try.prog 18 #[.pointer none] w fun e w' => e = .returned (.int .i64 1) ∧ w = w' := by
  go_enter Try.func18, Try.ntmps18
  go_wp2
  go_ret
  exact ⟨rfl, rfl⟩
theorem fence_calls {w : World} {g : Nat} {F : Nat → Prop} {K S : List Nat} {L : List Pn} (h : Dev w g F K S L) (hpos : ∀ p ∈ L, p.pos < K.length) (hL : L.length ≤ 9223372036854775807) (hK : K.length ≤ 9223372036854775807) :
    Calls Try.prog 18 #[.pointer (some ⟨g, 0, none⟩)] w fun e w' => e = .returned (.int .i64 0) ∧ Turn w g F (lay K (keeps stF L)) S (leaves stF L) w' := by
  obtain ⟨gk, ck, gs, cs, A, cp, hd, f1, f2, f3, f4, f5⟩ := h
  go_enter Try.func18, Try.ntmps18
  go_wp2_with (go_at_call 34; refine (settle_calls hd stF 35 #[] (fun _ _ => rfl) (fun k p W _ => fence1_calls _ p W) hpos hL hK f1 f2 f4).mono ?_; rintro e w' ⟨rfl, hd', ho⟩)
  go_ret
  exact ⟨rfl, Turn.mk hd' ho f1 f2 f3 f4 fun i hi => ⟨.inl hi, Nat.lt_of_lt_of_le (f5 i hi) ho.size⟩⟩
theorem crash_nil (A : Option Addr) (n c : Nat) (w : World) : Calls Try.prog 20 #[.pointer none, .slice A n c] w fun e w' => e = .returned (.int .i64 1) ∧ Below w.heap.size w w' := by
  go_enter Try.func20, Try.ntmps20
  go_wp2
  go_ret
  exact ⟨rfl, (Below.refl _ _).alloc (Nat.le_refl _) _⟩
theorem crash_calls {w : World} {g : Nat} {F : Nat → Prop} {K S : List Nat} {L : List Pn} (h : Dev w g F K S L) (hpos : ∀ p ∈ L, p.pos < K.length) (hL : L.length ≤ 9223372036854775807) (hK : K.length ≤ 9223372036854775807) (hS : S.length = K.length)
    (B : Option Addr) (keep : List Bool) (c : Nat) (hr : Cel w B (bv keep)) (hm : keep.length ≤ 9223372036854775807) (hB : ∀ ad, B = some ad → 0 < keep.length → ¬ F ad.block) :
    Calls Try.prog 20 #[.pointer (some ⟨g, 0, none⟩), .slice B keep.length c] w fun e w' => e = .returned (.int .i64 0) ∧ Turn w g F (lay K (keeps (stC keep) L)) (lay K (keeps (stC keep) L)) [] w' := by
  obtain ⟨gk, ck, gs, cs, A, cp, hd, f1, f2, f3, f4, f5⟩ := h
  have hmf : ∀ (fn : Fn) (first cap : Array Value) (w : World), (Instr.makeFunc fn first cap).run Try.prog w = .ok (.func fn first cap) w := fun _ _ _ _ => rfl
  have hdA : DevC (w.alloc (.cells #[.slice B keep.length c] 33)) g gk ck gs cs A cp K S L := hd.keep fun i hi => Below.heap_alloc _ _ _ (by
    rcases hi with rfl | rfl | rfl | ⟨ad, e, rfl⟩
    · exact f5 _ f1
    · exact f5 _ f2
    · exact f5 _ f3
    · exact f5 _ (f4 ad e))
  have hrA : Cel (w.alloc (.cells #[.slice B keep.length c] 33)) B (bv keep) := hr.below ((Below.refl _ _).alloc (Nat.le_refl _) _)
  have hst : ∀ (k : Nat) (p : Pn) (W : World), Only F (w.alloc (.cells #[.slice B keep.length c] 33)) W → Calls Try.prog 36 (#[.int .i64 (k : Nat), pval p] ++ #[.pointer (some ⟨w.heap.size, 0, none⟩)]) W
      fun e W' => e = .returned (.bool (stC keep k p)) ∧ Below W.heap.size W W' := fun k p W ho =>
    crash1_calls k p keep w.heap.size B c W ((World.cell?_of_block (ho.block w.heap.size (by simp) fun hf => by have := f5 _ hf; omega)).trans (cell_of_row _ _ 0 _ _ (0, 0) (heap_alloc_new _ _)))
      (hrA.only ho fun ad e h0 => hB ad e (by rw [bv_length] at h0; exact h0)) (by have := ho.size; simp at this; omega) hm
  have C := settle_calls hdA (stC keep) 36 #[.pointer (some ⟨w.heap.size, 0, none⟩)] (fun _ _ => rfl) hst hpos hL hK f1 f2 f4
  clear hst hrA
  go_enter Try.func20, Try.ntmps20
  go_wp2_with (fail)
  refine C.mono ?_
  rintro e w1 ⟨rfl, hd1, ho1⟩
  have g1 := hd1.c2
  have g2 := hd1.f 2
  go_wp2_with (fail)
  have hd2 := hd1.emptied
  have ho2 : Only F (w.alloc (.cells #[.slice B keep.length c] 33)) (w1.setCell ⟨g, 2, none⟩ (.slice none 0 0)) := ho1.setCell (.inl f1) _
  generalize w1.setCell ⟨g, 2, none⟩ (.slice none 0 0) = w2 at *
  have c0 := hd2.c0
  have c1 := hd2.c1
  rw [hS] at c1
  have ho3 : Only F w w2.drew := (Only.trans (Only.of_below F ((Below.refl _ _).alloc (Nat.le_refl _) _)) ho2 fun i hi => .inl hi).drew
  have hd3 : DevC w2.drew g gk ck gs cs none 0 (lay K (keeps (stC keep) L)) S [] := hd2.keep fun _ _ => rfl
  obtain ⟨cur, hcur, htake⟩ := hd3.hs
  have hsrc : ∀ (j : Nat) (v : Value), (wv (lay K (keeps (stC keep) L)))[j]? = some v → w2.drew.cell? ((⟨gk, 0, none⟩ : Addr).add j) = some v := by
    intro j v hj
    obtain ⟨ck', hck, hkt⟩ := hd3.hk
    rw [add_zero_block, cell_of_row _ gk j _ _ (0, 0) hck, ← Array.getElem?_toList]
    rw [← hkt, List.getElem?_take] at hj
    split at hj
    · exact hj
    · cases hj
  have hfit : 0 + (wv (lay K (keeps (stC keep) L))).length ≤ cur.size := by
    have := congrArg List.length htake
    rw [List.length_take, wv_length] at this
    have h2 : cur.toList.length = cur.size := Array.length_toList
    rw [wv_length, lay_length]
    omega
  have hd4 := hd3.copied (by rw [lay_length]; exact hS) hcur
  have ho4 := Only.setRow ho3 f3 (cur.toList.take 0 ++ (wv (lay K (keeps (stC keep) L)) ++ cur.toList.drop (0 + (wv (lay K (keeps (stC keep) L))).length))).toArray
  have H4 := Lib.hid (And.intro hd4 ho4)
  have HN : Hid ((wv (lay K (keeps (stC keep) L))).length = Nat.min (lay K (keeps (stC keep) L)).length K.length) := by
    show (wv (lay K (keeps (stC keep) L))).length = Nat.min (lay K (keeps (stC keep) L)).length K.length
    rw [wv_length, lay_length]
    exact (Nat.min_self _).symm
  have HC := Lib.hid hcur
  have HR := Lib.hid hsrc
  clear hsrc hcur htake hd4 ho4 hd2 ho2
  go_still_tail 8, (by kernel_rfl)
  change wpList _ _ _ _ _ w2.drew
  refine wpList_copy_own rfl (.tmp 16) (.tmp 20) 50 50 rfl 32 Try.underlying50 (by kernel_rfl) gs 0 K.length cs ⟨gk, 0, none⟩ (lay K (keeps (stC keep) L)).length ck rfl rfl cur 32 HC.out (wv (lay K (keeps (stC keep) L))) HN.out HR.out hfit (wv_one _) ?_
  generalize w2.drew.setRow gs (cur.toList.take 0 ++ (wv (lay K (keeps (stC keep) L)) ++ cur.toList.drop (0 + (wv (lay K (keeps (stC keep) L))).length))).toArray = w4 at *
  obtain ⟨hd4, ho4⟩ := H4.out
  clear H4 HN HC HR
  go_wp2
  go_ret
  exact ⟨rfl, Turn.mk hd4 ho4 f1 f2 f3 (fun ad e => by cases e) fun i hi => ⟨.inl hi, Nat.lt_of_lt_of_le (f5 i hi) ho4.size⟩⟩
end Go.Proofs.Ytghppmgieljgiaa

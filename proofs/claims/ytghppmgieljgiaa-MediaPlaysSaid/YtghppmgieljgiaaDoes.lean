/- What a step does to a device. -/
import Derived.Test.YtghppmgieljgiaaStp
namespace Go.Proofs.Ytghppmgieljgiaa
open Go.RowKit
section
variable {P : Program} {w : World}
/-- 'append(nil, s...)': a row of the call's own that reads as s. -/
theorem run_clone_n (t ty e : TypeId) (i : TypeInfo) (z : Value) (size bytes : Nat) (ht : P.underlying t = some (.slice e)) (hi : P.info? e = some i) (hz : i.zero = some z)
    (hsize : i.size = size) (hby : i.bytes = bytes) (hzs : z.cells.size = size) (hs0 : 0 < size)
    (A : Option Addr) (n c : Nat) (xs : List Value) (hr : Cel w A xs) (hl : xs.length = n * size) (h1 : ∀ u ∈ xs, u.oneCell' = true) (hm : n ≤ 1099511627776) (hb : bytes ≤ 64) :
    ∃ A' c' w', (Builtin.append_ #[t, t] ty #[.slice none 0 0, .slice A n c]).run P w = .ok (.slice A' n c') w' ∧ OwnR w' e size A' n c' xs ∧ Below w.heap.size w w' ∧ ∀ ad, A' = some ad → w.heap.size ≤ ad.block := by
  rcases Nat.eq_zero_or_pos n with hn | hn
  · subst hn
    obtain rfl : xs = [] := List.eq_nil_of_length_eq_zero (by simpa using hl)
    refine ⟨none, 0, w, ?_, OwnR.nil _ _ _, Below.refl _ _, fun ad e => by cases e⟩
    have hld : ∀ a : Addr, (loadCells a 0).run P w = .ok #[] w := fun a => run_loadCells_list (P := P) w a [] (by simp)
    rcases A with _ | ad
    · simp [Builtin.append_, run_underlying ht, sizeOf, typeInfo, hi, Builtin.lenOf, Builtin.firstCells]
    · simp [Builtin.append_, run_underlying ht, sizeOf, typeInfo, hi, Builtin.lenOf, Builtin.firstCells, hld]
  · obtain ⟨ad, rfl, _, hc⟩ := hr (by rw [hl]; exact Nat.mul_pos hn hs0)
    have hbb : n * bytes ≤ 1099511627776 * 64 := Nat.mul_le_mul hm hb
    obtain ⟨g, c', w', hrun, h2, h3, h4⟩ := run_append_r (P := P) w t ty e i z size bytes ht hi hz hsize hby hzs none 0 0 [] (OwnR.nil _ _ _) ad n c xs hl hc h1 hn (by unfold maxLen; omega) (by rw [Nat.zero_add]; omega)
    rw [List.nil_append] at h2
    rw [Nat.zero_add] at hrun h2
    refine ⟨_, c', w', hrun, h2, (Below.refl _ _).grown h3 (Nat.le_refl _) (fun k e => by cases e), fun ad e => ?_⟩
    injection e with e
    subst e
    rcases h4 with h4 | h4
    · cases h4
    · rw [h4]; exact Nat.le_refl _
theorem wpList_clone_n {ops : Array Oper} {rest : List Oper} {o : Oper} {a : Act} {Q : Exit → Act → World → Prop} (hgd : o.guard = none) (s x : Operand) (t : TypeId)
    (ho : o.op = .call { callee := .builtin .append, args := #[s, x], argTypes := #[t, t] })
    (e : TypeId) (i : TypeInfo) (z : Value) (size bytes : Nat) (ht : P.underlying t = some (.slice e)) (hi : P.info? e = some i) (hz : i.zero = some z)
    (hsize : i.size = size) (hby : i.bytes = bytes) (hzs : z.cells.size = size) (hs0 : 0 < size)
    (A : Option Addr) (n c : Nat) (xs : List Value) (hr : Cel w A xs) (hl : xs.length = n * size) (h1 : ∀ u ∈ xs, u.oneCell' = true) (hm : n ≤ 1099511627776) (hb : bytes ≤ 64)
    (hs : a.eval s = .slice none 0 0) (hx : a.eval x = .slice A n c)
    (h : ∀ A' c' w', OwnR w' e size A' n c' xs → Below w.heap.size w w' → (∀ ad, A' = some ad → w.heap.size ≤ ad.block) → wpList P ops Q rest (a.put o.dst (.slice A' n c')) w') : wpList P ops Q (o :: rest) a w :=
  wpList_plain hgd fun _ hK => by
    obtain ⟨A', c', w', hrun, h2, h3, h4⟩ := run_clone_n (P := P) (w := w) t o.type e i z size bytes ht hi hz hsize hby hzs hs0 A n c xs hr hl h1 hm hb
    unfold Oper.wp execOp
    simp only [ho, resolve, invoke, builtin, Sem.run_bind, Sem.run_pure, Result.andThen_ok, List.map_toArray, List.map_cons, List.map_nil, hs, hx, hrun]
    exact hK _ _ (h A' c' w' h2 h3 h4)
end
theorem bool_info : (Try.prog.info? 4).map (fun i => (i.zero, i.size, i.bytes)) = some (some (.bool false), 1, 1) := by kernel_rfl
/-- A device as lists. -/
structure Mo where
  K : List Nat
  S : List Nat
  L : List Pn
structure Mo.ok (m : Mo) (n N : Nat) : Prop where
  inv : Inv m.K m.S m.L
  len : m.K.length = 8 * n
  few : m.L.length ≤ N
theorem Inv.crash {K S : List Nat} {L : List Pn} (_ : Inv K S L) (keep : List Bool) : Inv (lay K (keeps (stC keep) L)) (lay K (keeps (stC keep) L)) [] := Inv.start _
def Mo.store (m : Mo) (a v : Nat) : Mo := ⟨m.K, m.S.set a v, m.L ++ [⟨a, v, false⟩]⟩
def Mo.flush (m : Mo) (a : Nat) : Mo := ⟨m.K, m.S, flushL a m.L⟩
def Mo.fence (m : Mo) : Mo := ⟨lay m.K (keeps stF m.L), m.S, leaves stF m.L⟩
def Mo.crash (m : Mo) (keep : List Bool) : Mo := ⟨lay m.K (keeps (stC keep) m.L), lay m.K (keeps (stC keep) m.L), []⟩
/-- What a step makes of it. -/
def Mo.step (m : Mo) (s : St) : Mo :=
  if s.act = 0 then if 0 ≤ s.pos ∧ s.pos < m.K.length then m.store s.pos.toNat s.word else m
  else if s.act = 1 then if 0 ≤ s.pos ∧ s.pos < m.K.length / 8 then m.flush s.pos.toNat else m
  else if s.act = 2 then m.fence
  else if s.act = 3 then m.crash s.keep
  else m
section
variable {m : Mo} {n N : Nat}
theorem Mo.ok.store (h : m.ok n N) (a v : Nat) (ha : a < m.K.length) : (m.store a v).ok n (N + 1) := ⟨h.inv.store a v ha, h.len, by unfold Mo.store; rw [List.length_append]; have := h.few; simp; omega⟩
theorem Mo.ok.flush (h : m.ok n N) (a : Nat) : (m.flush a).ok n N := ⟨h.inv.flush a, h.len, by unfold Mo.flush; rw [flushL_length]; exact h.few⟩
theorem Mo.ok.fence (h : m.ok n N) : m.fence.ok n N := ⟨h.inv.fence, by unfold Mo.fence; rw [lay_length]; exact h.len, Nat.le_trans (show (leaves stF m.L).length ≤ m.L.length from keeps_length _ _) h.few⟩
theorem Mo.ok.crash (h : m.ok n N) (keep : List Bool) : (m.crash keep).ok n N := ⟨h.inv.crash keep, by unfold Mo.crash; rw [lay_length]; exact h.len, Nat.zero_le _⟩
theorem Mo.ok.more (h : m.ok n N) {N' : Nat} (hN : N ≤ N') : m.ok n N' := ⟨h.inv, h.len, Nat.le_trans h.few hN⟩
theorem Mo.ok.step (h : m.ok n N) (s : St) : (m.step s).ok n (N + 1) := by
  unfold Mo.step
  split
  · split
    · exact h.store _ _ (by omega)
    · exact h.more (by omega)
  · split
    · split
      · exact (h.flush _).more (by omega)
      · exact h.more (by omega)
    · split
      · exact h.fence.more (by omega)
      · split
        · exact (h.crash _).more (by omega)
        · exact h.more (by omega)
end
/-- A device that reads as m. -/
def DevM (w : World) (g : Nat) (F : Nat → Prop) (m : Mo) : Prop := Dev w g F m.K m.S m.L
def TurnM (w : World) (g : Nat) (F : Nat → Prop) (m : Mo) (w' : World) : Prop := Turn w g F m.K m.S m.L w'
theorem Turn.pre {w w0 w' : World} {g : Nat} {F : Nat → Prop} {K S : List Nat} {L : List Pn} (hb : Below w.heap.size w w0) (h : Turn w0 g F K S L w') : Turn w g F K S L w' := by
  obtain ⟨F', h1, h2, h3⟩ := h
  refine ⟨F', h1, Only.trans (Only.of_below F hb) h2 fun i hi => .inl hi, fun i hi => (h3 i hi).imp id fun h => ?_⟩
  have := hb.size
  omega
theorem Turn.same {w w' : World} {g : Nat} {F : Nat → Prop} {K S : List Nat} {L : List Pn} (hb : Below w.heap.size w w') (h : Dev w g F K S L) : Turn w g F K S L w' :=
  ⟨F, h.below hb, Only.of_below F hb, fun _ hi => .inl hi⟩
/-- A step as a value. -/
def sval (s : St) : Value := .agg #[.int .i64 s.act, .int .i64 s.pos, .int .u64 (s.word : Nat), .slice s.ka s.keep.length s.kc]
theorem does_calls {w : World} {g n N : Nat} {F : Nat → Prop} {m : Mo} (h : DevM w g F m) (hm : m.ok n N) (hn : n ≤ 4096) (hN : N ≤ 1099511627776) (s : St) (hs : StOK w s) (hk : s.keep.length ≤ 1000) (hF : ∀ ad, s.ka = some ad → 0 < s.keep.length → ¬ F ad.block) :
    Calls Try.prog 32 #[.pointer (some ⟨g, 0, none⟩), sval s] w fun e w' => e = .returned (.tuple #[]) ∧ TurnM w g F (m.step s) w' := by
  obtain ⟨K, S, L⟩ := m
  obtain ⟨act, pos, word, ka, keep, kc⟩ := s
  unfold DevM at h
  unfold TurnM sval
  have hlen := hm.len
  have hb0 := fun o => (Below.refl w.heap.size w).alloc (Nat.le_refl _) o
  have hd := Lib.hid (fun o => h.below (hb0 o))
  simp only at *
  have HM := Lib.hid hm
  have HLEN := Lib.hid hlen
  have HB := Lib.hid hb0
  clear hm hlen hb0
  by_cases h0 : act = 0
  · subst h0
    by_cases hp : 0 ≤ pos ∧ pos < K.length
    · have hstep : (Mo.mk K S L).step ⟨0, pos, word, ka, keep, kc⟩ = (Mo.mk K S L).store pos.toNat word := by unfold Mo.step; simp [hp]
      rw [hstep]
      clear hstep
      obtain ⟨a, rfl⟩ := Int.eq_ofNat_of_zero_le hp.1
      have ha : a < K.length := by omega
      clear hp
      go_enter Try.func32, Try.ntmps32
      go_wp2_with (fail)
      refine (store_in (hd.out _) a word ha HM.out.inv.len (by have := HLEN.out; omega) (by have := HM.out.few; simp only at this; omega)).mono ?_
      rintro e w' ⟨rfl, ht⟩
      go_wp2
      go_end0
      exact ⟨rfl, ht.pre (HB.out _)⟩
    · have hstep : (Mo.mk K S L).step ⟨0, pos, word, ka, keep, kc⟩ = (Mo.mk K S L) := by unfold Mo.step; simp [hp]
      rw [hstep]
      clear hstep
      go_enter Try.func32, Try.ntmps32
      go_wp2_with (fail)
      refine (store_out (hd.out _) pos word hp (by have := HLEN.out; omega)).mono ?_
      rintro e w' ⟨rfl, rfl⟩
      go_wp2
      go_end0
      exact ⟨rfl, Turn.same (HB.out _) h⟩
  · have hb0 : (act == 0) = false := by rw [beq_eq_false_iff_ne]; exact h0
    by_cases h1 : act = 1
    · subst h1
      clear hb0 h0
      by_cases hp : 0 ≤ pos ∧ pos < K.length / 8
      · have hstep : (Mo.mk K S L).step ⟨1, pos, word, ka, keep, kc⟩ = (Mo.mk K S L).flush pos.toNat := by
          unfold Mo.step
          rw [if_neg (show ¬ (1 : Int) = 0 by decide), if_pos rfl, if_pos hp]
        rw [hstep]
        clear hstep
        obtain ⟨a, rfl⟩ := Int.eq_ofNat_of_zero_le hp.1
        have ha : a < n := by have := HLEN.out; omega
        clear hp
        go_enter Try.func32, Try.ntmps32
        go_wp2_with (fail)
        refine (flush_in (hd.out _) a n HLEN.out hn ha (by have := HM.out.few; simp only at this; omega) HM.out.inv.pos).mono ?_
        rintro e w' ⟨rfl, ht⟩
        go_wp2
        go_end0
        exact ⟨rfl, ht.pre (HB.out _)⟩
      · have hstep : (Mo.mk K S L).step ⟨1, pos, word, ka, keep, kc⟩ = (Mo.mk K S L) := by
          unfold Mo.step
          rw [if_neg (show ¬ (1 : Int) = 0 by decide), if_pos rfl, if_neg hp]
        rw [hstep]
        clear hstep
        have hp' : ¬ (0 ≤ pos ∧ pos < n) := by have := HLEN.out; omega
        have HP := Lib.hid hp'
        clear hp hp'
        go_enter Try.func32, Try.ntmps32
        go_wp2_with (fail)
        have hd2 := hd.out (.cells #[.int .i64 1, .int .i64 pos, .int .u64 (word : Nat), .slice ka keep.length kc] 35)
        obtain ⟨gk, ck, gs, cs, A, cp, hc, _⟩ := hd2
        refine (flush_out hc pos n HLEN.out hn HP.out).mono ?_
        rintro e w' ⟨rfl, rfl⟩
        go_wp2
        go_end0
        exact ⟨rfl, Turn.same (HB.out _) h⟩
    · have hb1 : (act == 1) = false := by rw [beq_eq_false_iff_ne]; exact h1
      by_cases h2 : act = 2
      · subst h2
        clear hb0 h0 hb1 h1
        have hstep : (Mo.mk K S L).step ⟨2, pos, word, ka, keep, kc⟩ = (Mo.mk K S L).fence := by
          unfold Mo.step
          rw [if_neg (show ¬ (2 : Int) = 0 by decide), if_neg (show ¬ (2 : Int) = 1 by decide), if_pos rfl]
        rw [hstep]
        clear hstep
        go_enter Try.func32, Try.ntmps32
        go_wp2_with (fail)
        refine (fence_calls (hd.out _) HM.out.inv.pos (by have := HM.out.few; simp only at this; omega) (by have := HLEN.out; omega)).mono ?_
        rintro e w' ⟨rfl, ht⟩
        go_wp2
        go_end0
        exact ⟨rfl, ht.pre (HB.out _)⟩
      · have hb2 : (act == 2) = false := by rw [beq_eq_false_iff_ne]; exact h2
        by_cases h3 : act = 3
        · subst h3
          clear hb0 h0 hb1 h1 hb2 h2
          have hstep : (Mo.mk K S L).step ⟨3, pos, word, ka, keep, kc⟩ = (Mo.mk K S L).crash keep := by
            unfold Mo.step
            rw [if_neg (show ¬ (3 : Int) = 0 by decide), if_neg (show ¬ (3 : Int) = 1 by decide), if_neg (show ¬ (3 : Int) = 2 by decide), if_pos rfl]
          rw [hstep]
          clear hstep
          obtain ⟨i0, hi0, hz0, hs0, hb0⟩ := info_parts bool_info
          have HI := Lib.hid hi0
          have HZ := Lib.hid hz0
          have HS := Lib.hid hs0
          have HBY := Lib.hid hb0
          clear hi0 hz0 hs0 hb0
          have hlt := Lib.hid h.lt
          have HC := Lib.hid (fun o => hs.cel.below (HB.out o))
          go_enter Try.func32, Try.ntmps32
          go_wp2_with (at_builtin; refine wpList_clone_n rfl (.const (.slice none 0 0)) (.tmp 28) 33 rfl 4 i0 _ 1 1 Try.underlying33 HI.out HZ.out HS.out HBY.out rfl (by decide) ka keep.length kc (bv keep) (HC.out _) (by rw [bv_length, Nat.mul_one]) (bv_one keep) (by omega) (by decide) rfl rfl ?_; intro A1 c1 w1 hown hb1 hnew)
          have hd1 := (hd.out _).below hb1
          have hbw := (HB.out _).trans (hb1.mono (by simp))
          refine (crash_calls hd1 HM.out.inv.pos (by have := HM.out.few; simp only at this; omega) (by have := HLEN.out; omega) HM.out.inv.len A1 keep c1 hown.cel (by omega) (fun ad e _ hf => by
            have q1 := hnew ad e
            have q2 := hlt.out _ hf
            simp at q1
            omega)).mono ?_
          rintro e w' ⟨rfl, ht⟩
          go_wp2
          go_end0
          exact ⟨rfl, ht.pre hbw⟩
        · have hb3 : (act == 3) = false := by rw [beq_eq_false_iff_ne]; exact h3
          have hstep : (Mo.mk K S L).step ⟨act, pos, word, ka, keep, kc⟩ = (Mo.mk K S L) := by
            unfold Mo.step
            rw [if_neg h0, if_neg h1, if_neg h2, if_neg h3]
          rw [hstep]
          clear hstep h0 h1 h2 h3
          go_enter Try.func32, Try.ntmps32
          go_wp2
          go_end0
          exact ⟨rfl, Turn.same (HB.out _) h⟩
end Go.Proofs.Ytghppmgieljgiaa

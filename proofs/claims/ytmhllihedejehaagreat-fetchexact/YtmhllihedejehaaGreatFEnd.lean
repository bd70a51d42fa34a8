/- Nothing is wanted at a place any more. -/
import Derived.Test.YtmhllihedejehaaGreatM08
namespace Go.Proofs.YtmhllihedejehaaGreat
open Go.RowKit
set_option linter.unusedVariables false
set_option linter.unusedSimpArgs false

theorem split_uniq {k : Key} {d d' : Int} : ∀ {A A' B B' : List (Key × Int)}, A ++ (k, d) :: B = A' ++ (k, d') :: B' → ((A ++ (k, d) :: B).map Prod.fst).Nodup → A = A' ∧ d = d' ∧ B = B'
  | [], [], B, B', e, _ => by simp only [List.nil_append, List.cons.injEq, Prod.mk.injEq, true_and] at e; exact ⟨rfl, e.1, e.2⟩
  | [], a :: A', B, B', e, h => by
    simp only [List.nil_append, List.cons_append, List.cons.injEq] at e
    obtain ⟨e1, e2⟩ := e
    rw [List.nil_append, List.map_cons, List.nodup_cons, e2] at h
    exact (h.1 (by simp)).elim
  | a :: A, [], B, B', e, h => by
    simp only [List.nil_append, List.cons_append, List.cons.injEq] at e
    obtain ⟨e1, e2⟩ := e
    rw [List.cons_append, List.map_cons, List.nodup_cons, e1] at h
    exact (h.1 (by simp)).elim
  | a :: A, a' :: A', B, B', e, h => by
    simp only [List.cons_append, List.cons.injEq] at e
    obtain ⟨e1, e2⟩ := e
    rw [List.cons_append, List.map_cons, List.nodup_cons] at h
    obtain ⟨h1, h2, h3⟩ := split_uniq e2 h.2
    exact ⟨by rw [e1, h1], h2, h3⟩

/-- What is wanted behind a side's end. -/
def wantsAt (t : PT) (vs : Key) (d : Int) (z : Bool) (A B : List (Key × Int)) : Prop := t.wants [] = if z = true then A ++ (vs, d) :: B else A ++ B
theorem PT.cut_wants {t : PT} {vs : Key} {c : UInt8} {b b' : Nat} {d d' : Int} {l r : PT} {A B : List (Key × Int)} (hu : t.get vs = some (.is b' d' l r)) (hg : t.get (vs ++ [c]) = some (.is b d .no .no)) (hw : t.wants [] = A ++ (vs ++ [c], d) :: B) :
    (c = 48 ∧ l = .is b d .no .no ∧ wantsAt (t.put vs (.is b' d' .no r)) vs d' (PT.no.isNo && r.isNo) A B) ∨ (c = 49 ∧ r = .is b d .no .no ∧ wantsAt (t.put vs (.is b' d' l .no)) vs d' (l.isNo && PT.no.isNo) A B) := by
  have hn := PT.wants_nodup t []
  rw [PT.get_app, hu] at hg
  replace hg : (PT.is b' d' l r).get [c] = some (.is b d .no .no) := hg
  rw [PT.get_cons] at hg
  obtain ⟨A0, B0, hA, hi, _⟩ := PT.ctx vs t _ [] hu rfl
  have h0 := hA (.is b' d' l r) rfl
  rw [hi, hw, List.nil_append] at h0
  rw [hw] at hn
  by_cases h1 : c = 48
  · rw [if_pos h1, PT.get_nil] at hg
    injection hg with hg
    subst h1
    subst hg
    have e1 : (PT.is b' d' (.is b d .no .no) r).wants vs = (vs ++ [48], d) :: r.wants (vs ++ [49]) := rfl
    rw [e1, List.cons_append] at h0
    obtain ⟨q1, _, q2⟩ := split_uniq h0 hn
    refine .inl ⟨rfl, rfl, ?_⟩
    unfold wantsAt
    rw [hA _ rfl, q1, q2, List.nil_append]
    cases hr : r.isNo with
    | true => rw [PT.eq_no hr]; rfl
    | false =>
      have e2 : (PT.is b' d' .no r).wants vs = PT.no.wants (vs ++ [48]) ++ r.wants (vs ++ [49]) := by
        show (if _ then _ else _) = _
        rw [hr]; rfl
      rw [e2]; rfl
  · rw [if_neg h1] at hg
    by_cases h2 : c = 49
    · rw [if_pos h2, PT.get_nil] at hg
      injection hg with hg
      subst h2
      subst hg
      have e1 : (PT.is b' d' l (.is b d .no .no)).wants vs = l.wants (vs ++ [48]) ++ [(vs ++ [49], d)] := by
        show (if _ then _ else _) = _
        have : (PT.is b d .no .no).isNo = false := rfl
        rw [this, Bool.and_false, if_neg (by simp)]
        rfl
      rw [e1, List.append_assoc, ← List.append_assoc] at h0
      obtain ⟨q1, _, q2⟩ := split_uniq h0 hn
      refine .inr ⟨rfl, rfl, ?_⟩
      unfold wantsAt
      rw [hA _ rfl, q1, q2, List.nil_append]
      cases hl : l.isNo with
      | true => rw [PT.eq_no hl]; simp [PT.wants, PT.isNo]
      | false =>
        have e2 : (PT.is b' d' l .no).wants vs = l.wants (vs ++ [48]) ++ PT.no.wants (vs ++ [49]) := by
          show (if _ then _ else _) = _
          rw [hl]; rfl
        rw [e2]
        simp [PT.wants, PT.isNo]
    · rw [if_neg h2] at hg; cases hg

/-- All blocks but these are as they were. -/
structure Sv (S : List Nat) (w w' : World) : Prop where
  env : Env w w'
  size : w.heap.size ≤ w'.heap.size
  same : ∀ k, k < w.heap.size → k ∉ S → w'.heap[k]? = w.heap[k]?
theorem Sv.refl (S : List Nat) (w : World) : Sv S w w := ⟨Env.refl _, Nat.le_refl _, fun _ _ _ => rfl⟩
theorem Sv.trans {S : List Nat} {u v w : World} (h : Sv S u v) (k : Sv S v w) : Sv S u w := ⟨h.env.trans k.env, Nat.le_trans h.size k.size, fun i hi hb => (k.same i (Nat.lt_of_lt_of_le hi h.size) hb).trans (h.same i hi hb)⟩
theorem Sv.of_below {S : List Nat} {w w' : World} (h : Below w.heap.size w w') : Sv S w w' := ⟨Env.of_below h, h.size, fun k hk _ => h.block k hk⟩
theorem Sv.of_only {S : List Nat} {b : Nat} {w w' : World} (hb : b ∈ S) (h : Only b w w') : Sv S w w' := ⟨h.env, h.size, fun k hk hn => h.same k hk (fun e => hn (e ▸ hb))⟩
theorem Sv.wide {S T : List Nat} {w w' : World} (h : Sv S w w') (hs : ∀ k ∈ S, k ∈ T) : Sv T w w' := ⟨h.env, h.size, fun k hk hn => h.same k hk (fun e => hn (hs k e))⟩
theorem Sv.blk {S : List Nat} {w w' : World} {b : Nat} {cs : Array Value} {t : TypeId} (h : Sv S w w') (k : Blk w b cs t) (hn : b ∉ S) : Blk w' b cs t := (h.same b k.lt hn).trans k

/-- Fewer places are left. -/
theorem PT.put_sub {t : PT} {ws : Key} {s s' : PT} (h : t.get ws = some s) (hs : s'.bs.Sublist s.bs) (hn : t.bs.Nodup) : (t.put ws s').bs.Nodup ∧ ∀ k ∈ (t.put ws s').bs, k ∈ t.bs := by
  obtain ⟨X, Y, e, f⟩ := PT.bs_ctx ws t s h
  have : (t.put ws s').bs.Sublist t.bs := by
    rw [e, f]
    exact List.Sublist.append (List.Sublist.refl _) (List.Sublist.append hs (List.Sublist.refl _))
  exact ⟨hn.sublist this, fun k hk => this.subset hk⟩

/-- Where end stands: a place that is left with nothing, or one that is not. -/
structure EndAt (w0 : World) (S : List Nat) (top : Option Addr) (A B : List (Key × Int)) (p : Value) (n : Nat) (w : World) (t : PT) (ws : Key) (b : Nat) (d : Int) (l r : PT) : Prop where
  pv : p = .pointer (some ⟨b, 0, none⟩)
  ln : ws.length = n
  get : t.get ws = some (.is b d l r)
  wts : wantsAt t ws d (l.isNo && r.isNo) A B
  pl : PlAt w none t
  nd : t.bs.Nodup
  sub : ∀ k ∈ t.bs, k ∈ S
  tp : t.at = top
  sv : Sv S w0 w

theorem list_snoc (ws : Key) : ws = [] ∨ ∃ vs c, ws = vs ++ [c] := by
  rcases List.eq_nil_or_concat ws with h | ⟨vs, c, h⟩
  · exact .inl h
  · exact .inr ⟨vs, c, by rw [h, List.concat_eq_append]⟩
/-- What is left behind a cut. -/
theorem EndAt.cut {w0 w w1 : World} {S : List Nat} {top : Option Addr} {A B : List (Key × Int)} {p : Value} {n m : Nat} {t : PT} {vs : Key} {b' : Nat} {d' : Int} {l r l' r' : PT} {ws : Key} {b : Nat} {d : Int} {l0 r0 : PT} (E : EndAt w0 S top A B p n w t ws b d l0 r0) (hu : t.get vs = some (.is b' d' l r)) (hm : vs.length = m)
    (hs : (PT.is b' d' l' r').bs.Sublist (PT.is b' d' l r).bs) (hw : wantsAt (t.put vs (.is b' d' l' r')) vs d' (l'.isNo && r'.isNo) A B) (O : Only b' w w1) (hP : ∀ up', Blk w b' #[.int .u64 d', .pointer up', .pointer l.at, .pointer r.at] 71 → PlAt w1 up' (.is b' d' l' r')) :
    EndAt w0 S top A B (.pointer (some ⟨b', 0, none⟩)) m w1 (t.put vs (.is b' d' l' r')) vs b' d' l' r' := by
  obtain ⟨h1, h2⟩ := PT.put_sub hu hs E.nd
  have hb := PT.get_bs vs t hu
  exact ⟨rfl, hm, PT.get_put vs t _ _ hu, hw, PlAt.put vs E.pl hu E.nd (fun k hk hne => O.same k (E.pl.lt k hk) hne) hP, h1, fun k hk => E.sub k (h2 k hk), (PT.at_put vs t b' d' d' l r l' r' hu).trans E.tp, E.sv.trans (Sv.of_only (E.sub _ hb) O)⟩

set_option maxRecDepth 8000 in
set_option maxHeartbeats 3200000 in
theorem end_any' (fb b : Nat) (d : Int) (c0 c1 c3 c4 c5 : Value) (pt : PT) (ws : Key) (A B : List (Key × Int)) (w : World) (hf : Blk w fb #[c0, c1, .pointer pt.at, c3, c4, c5] 74) (h : PlAt w none pt) (hn : pt.bs.Nodup) (hg : pt.get ws = some (.is b d .no .no)) (hw : pt.wants [] = A ++ (ws, d) :: B) :
    Calls Tryz.prog 60 #[.pointer (some ⟨fb, 0, none⟩), .pointer (some ⟨b, 0, none⟩)] w fun e w' => (∃ v, e = .returned v) ∧ ∃ pt' : PT, Blk w' fb #[c0, c1, .pointer pt'.at, c3, c4, c5] 74 ∧ PlAt w' none pt' ∧ pt'.bs.Nodup ∧ (∀ k ∈ pt'.bs, k ∈ pt.bs) ∧ pt'.wants [] = A ++ B ∧ Sv (fb :: pt.bs) w w' := by
  have hfn : fb ∉ pt.bs := fun q => by
    obtain ⟨t, S, hS⟩ : ∃ t S, t = pt ∧ S = pt.bs := ⟨_, _, rfl, rfl⟩
    have hall : ∀ (t : PT) (up : Option Addr), PlAt w up t → ∀ k ∈ t.bs, ∃ cs, Blk w k cs 71 := by
      intro t
      induction t with
      | no => intro up _ k hk; cases hk
      | is b d l r ihl ihr =>
        intro up hp k hk
        rcases List.mem_cons.1 hk with e | e
        · exact ⟨_, e ▸ hp.1⟩
        · rcases List.mem_append.1 e with q | q
          · exact ihl _ hp.2.1 k q
          · exact ihr _ hp.2.2 k q
    obtain ⟨cs, hc⟩ := hall pt _ h fb q
    have := hc.symm.trans hf
    simp at this
  obtain ⟨S, hS⟩ : ∃ S, pt.bs = S := ⟨_, rfl⟩
  obtain ⟨top, htop⟩ : ∃ top, pt.at = top := ⟨_, rfl⟩
  rw [hS] at hfn
  have E0 : EndAt w S top A B (.pointer (some ⟨b, 0, none⟩)) ws.length w pt ws b d .no .no := ⟨rfl, rfl, hg, by unfold wantsAt; exact hw, h, hn, (fun k hk => hS ▸ hk), htop, Sv.refl _ _⟩
  rw [htop] at hf
  have HS : Hid (pt.bs = S) := hS
  clear hS htop h hn hg hw
  go_enter Tryz.func60, Tryz.ntmps60
  go_wp2_with fail
  go_loopg [1] ws.length (fun g n wr => ∃ t vs b d l r, EndAt w S top A B n g wr t vs b d l r)
  case atStart => exact ⟨_, _, _, _, _, _, E0⟩
  case round =>
    obtain ⟨t, vs, b, d, l, r, E⟩ := hrel
    have HE : Hid (EndAt w S top A B _ _ wr t vs b d l r) := E
    obtain ⟨rfl, rfl, hget, hwt, hpl, hnd, hsub, htp, hsv⟩ := E
    obtain ⟨up, hP, hu0, hu1⟩ := PlAt.get vs hpl hget
    obtain ⟨kB, hl, hr⟩ := hP
    have hfB := (hsv.blk hf hfn)
    have HF := show Hid (_) from hfB
    have HW := show Hid (_) from hwt
    have HT := show Hid (_) from htp
    have HSV : Hid (Sv (fb :: pt.bs) w wr) := hsv.wide fun k hk => List.mem_cons_of_mem _ (HS.out ▸ hk)
    have HSB : Hid (∀ k ∈ t.bs, k ∈ pt.bs) := fun k hk => HS.out ▸ hsub k hk
    have HPL := show Hid (_) from hpl
    have HND := show Hid (_) from hnd
    have K1 := isEnd_any b d (.pointer up) l r wr kB
    have c1' := (kB.cell 1).trans rfl
    have zb := kB.lt
    cases hz : (l.isNo && r.isNo) with
    | false =>
      rw [hz] at K1
      have HZ := show Hid (_) from hz
      clear E0 hf hwt htp hsv hsub hpl hnd hget hu0 hu1 hl hr hfB hz kB HE
      generalize top = tq at *
      go_wp2_with fail
      refine K1.mono ?_
      rintro e w1 ⟨rfl, rfl⟩
      go_wp2_with fail
      refine K1.mono ?_
      rintro e w1 ⟨rfl, rfl⟩
      go_wp2
      go_end0
      refine ⟨⟨_, rfl⟩, t, by rw [HT.out]; exact HF.out, HPL.out, HND.out, HSB.out, ?_, HSV.out⟩
      have := HW.out
      unfold wantsAt at this
      rw [HZ.out, if_neg (by simp)] at this
      exact this
    | true =>
      rw [hz] at K1
      have hz2 : l.isNo = true ∧ r.isNo = true := by simpa using hz
      obtain rfl := PT.eq_no hz2.1
      obtain rfl := PT.eq_no hz2.2
      rcases list_snoc vs with rfl | ⟨us, c, rfl⟩
      · have eu := hu0 rfl
        subst eu
        rw [PT.get_nil] at hget
        injection hget with hget
        have HG := show Hid (t = .is b d .no .no) from hget
        have k2 := (hfB.cell 2).trans rfl
        have f2 := hfB.frozen 2
        have hF2 := hfB.set 2 (.pointer none)
        have O2 : Sv (fb :: pt.bs) w (wr.setCell ⟨fb, 2, none⟩ (.pointer none)) := HSV.out.trans (Sv.of_only (List.mem_cons_self ..) ((Only.refl fb wr).set 2 _))
        clear E0 hf hwt htp hsv hsub hpl hnd hget hu0 hu1 hl hr hfB hz kB hz2 HE HF
        go_wp2_with fail
        refine K1.mono ?_
        rintro e w1 ⟨rfl, rfl⟩
        go_wp2_with fail
        refine K1.mono ?_
        rintro e w1 ⟨rfl, rfl⟩
        go_wp2
        go_end0
        refine ⟨⟨_, rfl⟩, .no, hF2, trivial, List.nodup_nil, (fun k hk => by cases hk), ?_, O2⟩
        have h1 := HW.out
        rw [HG.out] at h1
        replace h1 : [(([] : Key), d)] = A ++ ([], d) :: B := h1
        cases A with
        | nil => simp only [List.nil_append, List.cons.injEq, true_and] at h1; rw [← h1]; rfl
        | cons a A => simp at h1
      · obtain ⟨u, hu, eup⟩ := hu1 us c rfl
        have hgc := hget
        rw [PT.get_app, hu] at hgc
        cases u with
        | no => cases hgc
        | is b' d' l' r' =>
          have eup : up = some ⟨b', 0, none⟩ := eup
          subst eup
          obtain ⟨up2, hP2, _, _⟩ := PlAt.get us hpl hu
          obtain ⟨kP, pl', pr'⟩ := hP2
          have hwt' : t.wants [] = A ++ (us ++ [c], d) :: B := hwt
          have hbb : b' ≠ b := fun e => by
            obtain ⟨X, Y, e1, _⟩ := PT.bs_ctx us t _ hu
            rw [e1] at hnd
            have h2 := (List.nodup_append.1 (List.nodup_append.1 hnd).2.1).1
            have h3 : b' ∉ l'.bs ++ r'.bs := (List.nodup_cons.1 h2).1
            rcases PT.cut_wants hu hget hwt' with ⟨_, e3, _⟩ | ⟨_, e3, _⟩
            · exact h3 (List.mem_append_left _ (by rw [e3, e]; exact List.mem_cons_self ..))
            · exact h3 (List.mem_append_right _ (by rw [e3, e]; exact List.mem_cons_self ..))
          have HBB := show Hid (_) from hbb
          have HKB := show Hid (_) from kB
          rcases PT.cut_wants hu hget hwt' with ⟨hc, e3, h4⟩ | ⟨hc, e3, h4⟩
          · subst e3
            have K2 := cut_left b' b d' up2 r' wr kP
            have HN : Hid (∀ w1, Only b' wr w1 → Blk w1 b' #[.int .u64 d', .pointer up2, .pointer none, .pointer r'.at] 71 → EndAt w S top A B (.pointer (some ⟨b', 0, none⟩)) us.length w1 (t.put us (.is b' d' .no r')) us b' d' .no r') := by
              intro w1 O k
              refine HE.out.cut hu rfl ?_ h4 O (fun up' hup => ?_)
              · show (b' :: ([] ++ r'.bs)).Sublist (b' :: ((b :: ([] ++ [])) ++ r'.bs))
                exact List.Sublist.cons_cons _ (List.sublist_append_right _ _)
              · have e5 : up' = up2 := by have := kP.symm.trans hup; simp at this; exact this.symm
                subst e5
                refine ⟨k, trivial, pr'.only fun x hx => O.same x (pr'.lt x hx) (fun e => ?_)⟩
                obtain ⟨X, Y, e1, _⟩ := PT.bs_ctx us t _ hu
                rw [e1] at hnd
                have h2 := (List.nodup_append.1 (List.nodup_append.1 hnd).2.1).1
                have h3 := (List.nodup_cons.1 h2).1
                exact h3 (List.mem_append_right _ (e ▸ hx))
            clear E0 hf hwt htp hsv hsub hpl hnd hget hu0 hu1 hl hr hfB hz kB hz2 HE HF HW HT HSV HSB HPL HND hgc hu kP pl' pr' hwt' hbb h4 hc hfn
            generalize r'.at = ra at *
            go_wp2_with fail
            refine K1.mono ?_
            rintro e w1 ⟨rfl, rfl⟩
            go_wp2_with fail
            refine K2.mono ?_
            rintro e w1 ⟨⟨v, rfl⟩, O, k⟩
            have kb2 : Blk w1 b #[.int .u64 d, .pointer (some ⟨b', 0, none⟩), .pointer PT.no.at, .pointer PT.no.at] 71 := (O.same b (Blk.lt HKB.out) (fun e => HBB.out e.symm)).trans HKB.out
            have c1'' := (kb2.cell 1).trans rfl
            have zb2 := kb2.lt
            have HK := show Hid (_) from HN.out w1 O k
            clear K1 K2 c1' zb O k kb2
            go_wp2
            go_roundg us.length
            case measure => simp
            case rel => exact ⟨_, _, _, _, _, _, HK.out⟩
          · subst e3
            have K2 := cut_right b' b d' up2 l' wr (fun e d2 l2 r2 he => ⟨fun e1 => ?_, ?_, _, kB⟩) kP
            rotate_left
            · subst he
              obtain ⟨X, Y, e2, _⟩ := PT.bs_ctx us t _ hu
              rw [e2] at hnd
              have h2 := (List.nodup_append.1 (List.nodup_append.1 hnd).2.1).1
              have h3 := (List.nodup_append.1 (List.nodup_cons.1 h2).2).2.2
              exact h3 e (List.mem_cons_self ..) b (List.mem_cons_self ..) e1
            · subst he
              exact ⟨_, pl'.1⟩
            have HN : Hid (∀ w1, Only b' wr w1 → Blk w1 b' #[.int .u64 d', .pointer up2, .pointer l'.at, .pointer none] 71 → EndAt w S top A B (.pointer (some ⟨b', 0, none⟩)) us.length w1 (t.put us (.is b' d' l' .no)) us b' d' l' .no) := by
              intro w1 O k
              refine HE.out.cut hu rfl ?_ h4 O (fun up' hup => ?_)
              · show (b' :: (l'.bs ++ [])).Sublist (b' :: (l'.bs ++ (b :: ([] ++ []))))
                rw [List.append_nil]
                exact List.Sublist.cons_cons _ (List.sublist_append_left _ _)
              · have e5 : up' = up2 := by have := kP.symm.trans hup; simp at this; exact this.symm
                subst e5
                refine ⟨k, pl'.only fun x hx => O.same x (pl'.lt x hx) (fun e => ?_), trivial⟩
                obtain ⟨X, Y, e1, _⟩ := PT.bs_ctx us t _ hu
                rw [e1] at hnd
                have h2 := (List.nodup_append.1 (List.nodup_append.1 hnd).2.1).1
                have h3 := (List.nodup_cons.1 h2).1
                exact h3 (List.mem_append_left _ (e ▸ hx))
            clear E0 hf hwt htp hsv hsub hpl hnd hget hu0 hu1 hl hr hfB hz kB hz2 HE HF HW HT HSV HSB HPL HND hgc hu kP pl' pr' hwt' hbb h4 hc hfn
            generalize l'.at = ra at *
            go_wp2_with fail
            refine K1.mono ?_
            rintro e w1 ⟨rfl, rfl⟩
            go_wp2_with fail
            refine K2.mono ?_
            rintro e w1 ⟨⟨v, rfl⟩, O, k⟩
            have kb2 : Blk w1 b #[.int .u64 d, .pointer (some ⟨b', 0, none⟩), .pointer PT.no.at, .pointer PT.no.at] 71 := (O.same b (Blk.lt HKB.out) (fun e => HBB.out e.symm)).trans HKB.out
            have c1'' := (kb2.cell 1).trans rfl
            have zb2 := kb2.lt
            have HK := show Hid (_) from HN.out w1 O k
            clear K1 K2 c1' zb O k kb2
            go_wp2
            go_roundg us.length
            case measure => simp
            case rel => exact ⟨_, _, _, _, _, _, HK.out⟩
end Go.Proofs.YtmhllihedejehaaGreat

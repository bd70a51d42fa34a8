/- Prove, of any tree. -/
import Derived.Test.YtfjkgglflmakhaaDoorPProve
namespace Go.Proofs.YtfjkgglflmakhaaDoor
open Go.RowKit
set_option linter.unusedVariables false
set_option linter.unusedSimpArgs false

theorem prove_any (wd : Int) (q : Option Addr) (o : Option Tr) (key : Key) (w : World) (hk : key.length ≤ 32) (g : Good o) (h : TopAt wd w (.pointer q) o) :
    Calls Tryd.prog 16 #[.agg #[.int .i64 wd, .pointer q], .string (str key)] w fun e w' => ∃ la cap, e = .returned (.tuple #[pfV la cap (proveO wd key o), .int .i64 0]) ∧ PfIn w' la cap (proveO wd key o) ∧ Below w.heap.size w w' := by
  cases o with
  | none =>
    have e : q = none := by have h : Value.pointer q = .pointer none := h; injection h
    subst e
    exact (prove_none wd key w hk).mono fun e w' ⟨h1, h2⟩ => ⟨none, 0, h1, ⟨Nat.le_refl _, Nat.zero_le _, .inl rfl, by simp [proveO], by simp [proveO], by simp [proveO]⟩, h2⟩
  | some t =>
    obtain ⟨b, e, hn⟩ := h
    injection e with e
    subst e
    have hf := proveO_fits wd key (some t) g
    have hl := proveO_len wd key (some t) g
    have hkv := g.keys _ (t.find_mem key)
    refine (prove_some wd b t key w hk hn (g.placed t rfl) (by simp only [proveO] at hl; omega)).mono fun e w' ⟨la, cap, h1, h2, h3, h4, h5⟩ => ⟨la, cap, h1, ⟨h2, h3, h4, fun z hz => ?_, ?_, ?_⟩, h5⟩
    · have h6 := hf.pos z hz
      exact ⟨⟨by omega, by omega⟩, hf.side z hz⟩
    · have := hkv.1; unfold maxLen; simp only [proveO]; omega
    · have := hkv.2.1; unfold maxLen; simp only [proveO]; omega
end Go.Proofs.YtfjkgglflmakhaaDoor

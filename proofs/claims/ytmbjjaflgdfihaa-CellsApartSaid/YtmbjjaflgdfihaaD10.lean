/- D10: the base, by its newer name -/
import Derived.Test.YtmbjjaflgdfihaaD15
